/- Part of the proofs over this program: Ref8D, Ref7S, Ref7O, Ref7T, Ref8O. -/
import Derived.Test.YtkfelkpilaipnaaDoorProg
import Derived.WalkKit
import Derived.WalkSpells
import Derived.WalkLawsBesides
import Derived.Deep.Draws
import Derived.BigQuiet
import Derived.Deep.QuietTactic
import Derived.RegionTactic
import Derived.Deep.DeepFit
import Derived.Deep.RegionWith
import Derived.Laws.CopyOwn
import Derived.Laws.OwnMore
import Derived.OwnWalk
import Derived.ProofKit
import Derived.OpenShut
import Derived.Laws.IdiomStrings
import Derived.Lib.IndexLaws
import Derived.Lib.IndexMore
import Derived.Lib.Strings
import Derived.Lib.Bytes
import Derived.Lib.Index
import Derived.Test.YtkfelkpilaipnaaDoorShelf
import Derived.ScopeJumps
import Derived.WalkMore
import Derived.Laws.FloatArith
import Derived.OrdersHeld
import Derived.Deep.DeepCutAuto
import Derived.IntWalk
import Derived.Maps.OwnSet
import Derived.Defers
import Derived.Recover
import Derived.Test.YtkfelkpilaipnaaDoorKA
import Derived.Test.YtkfelkpilaipnaaDoorKB
import Derived.Test.YtkfelkpilaipnaaDoorKC
namespace Go.Proofs.YtkfelkpilaipnaaDoor
set_option maxRecDepth 100000
open Go.RowKit

theorem Y.decls_more : ∀ (f : Nat) (acc : List Y.Dcl) (ts : List Tok) (ds : List Y.Dcl) (r : List Tok), Y.decls f acc ts = .ok ds r → ∃ ms, ds = acc ++ ms
  | 0, acc, ts, ds, r, h => by injection h with h1 h2; exact ⟨[], by rw [← h1, List.append_nil]⟩
  | f + 1, acc, ts, ds, r, h => by
    rw [Y.decls] at h
    split at h
    · injection h with h1 h2; exact ⟨[], by rw [← h1, List.append_nil]⟩
    · obtain ⟨d, m, h1, h2⟩ := Y.bind_eq_ok h
      obtain ⟨ms, e⟩ := Y.decls_more f _ _ _ _ h2
      exact ⟨d :: ms, by rw [e]; simp⟩
theorem OwnD.alloc5 {L : List Int} {w : World} {base : Nat} {v : Value} {ds : List Y.Dcl} (h : OwnD L w base v ds) (o : Obj) : OwnD L (w.alloc o) base v ds := h.grown (only_alloc (World.grownBy.refl _ _) o) (Away.none _ _)
set_option maxHeartbeats 16000000 in
theorem decls8 (L : List Int) (B R px py : Nat) (f : Nat) (ts : List Tok) (ds : List Y.Dcl) (r : List Tok) (w : World) (hr : Rd8 L B R px py w ts) (hy : Y.decls f [] ts = .ok ds r) (hf : ts.length < f) (hns : ∀ d ∈ ds, d.k = 4 ∨ d.k = 5) :
    Calls Tryd.prog 51 #[.pointer (some ⟨R, 0, none⟩)] w fun e w' => w.grownBy w' (some R) ∧ ∃ v, e = .returned v ∧ OwnD L w' w.heap.size v ds ∧ Rd8 L B R px py w' r := by
  have HR := hide hr
  have hRlt := hr.lt
  have HY := hide hy
  have HF := hide hf
  have HNS := hide hns
  have hts := hr.len
  have SC := fun a w m X Y => show (store a (.complex .f64 X Y) m).run Tryd.prog w = stored Tryd.prog w a (.complex .f64 X Y) m from run_store _ w a _ m rfl
  have BDD := fun A (n c : Nat) k w => (run_build w 116 _ _ (by kernel_rfl) : (Instr.build 116 #[(0, .int .i64 k), (1, .slice A n c)]).run Tryd.prog w = .ok (.agg #[.int .i64 k, .slice A n c]) w)
  clear hr hy hf hns
  go_enter Tryd.func51, Tryd.ntmps51
  go_wp2
  go_loopw [3] (fun v wr => ∃ (acc : List Y.Dcl) (rest : List Tok) (f : Nat), Hid (Y.decls f acc rest = .ok ds r) ∧ rest.length < f ∧ OwnD L wr w.heap.size v acc ∧ Rd8 L B R px py wr rest ∧ w.grownBy wr (some R) ∧ acc.length + rest.length ≤ ts.length) (fun v _ => 4001 - slLen v)
  case atStart => exact ⟨[], ts, f, HY, HF.out, OwnD.nil _ _ _, HR.out, World.grownBy.refl _ _, by simp⟩
  case round =>
    clear HR HY HF
    obtain ⟨acc, rest, f, HY, hf, ho, hr, hg, hl⟩ := hrel
    have HO := hide ho
    have HR := hide hr
    have HG := hide hg
    obtain ⟨Aa, ca, rfl, _, _⟩ := ho.form
    obtain ⟨f, rfl⟩ : ∃ f', f = f' + 1 := ⟨f - 1, by omega⟩
    obtain ⟨Ax, cx, hx0, hx3, _⟩ := hr.cell0
    have HKD := hide (fun (x : World) (h : Rd8 L B R px py x rest) => kind8 L B R px py rest x h)
    have hY := HY.out
    rw [Y.decls] at hY
    rcases rest with _ | ⟨t, m1⟩
    · exfalso
      rw [if_neg (by simp [Y.is])] at hY
      obtain ⟨d, m, h1, _⟩ := Y.bind_eq_ok hY
      unfold Y.decl at h1
      obtain ⟨t, m, h2, _⟩ := Y.bind_eq_ok h1
      cases h2
    have HK0 : Hid (kd (t :: m1) = t.k) := hide rfl
    rw [HK0.out] at HKD
    have hlen : 0 < ((t :: m1).length : Int) := by simp
    by_cases h9 : t.k = 9
    · have HFIN : Hid (acc = ds ∧ t :: m1 = r) := hide (by
        rw [if_pos (by show [(9 : Int)].contains t.k = true; rw [h9]; rfl)] at hY
        injection hY with h1 h2
        exact ⟨h1, h2⟩)
      rw [h9] at HKD
      clear hY h9 ho hr hg
      generalize (t :: m1).length = n at *
      go_wp2_with fail
      refine (HKD.out _ HR.out).mono ?_; rintro _ _ ⟨rfl, rfl⟩
      go_wp2
      go_ret
      exact ⟨HG.out, _, rfl, by rw [← HFIN.out.1]; exact HO.out, by rw [← HFIN.out.2]; exact HR.out⟩
    · rw [if_neg (by show ¬ [(9 : Int)].contains t.k = true; simpa using fun e => h9 e)] at hY
      obtain ⟨d, m2, hd, hY⟩ := Y.bind_eq_ok hY
      have hdk : d.k = 4 ∨ d.k = 5 := by
        obtain ⟨ms, e⟩ := Y.decls_more _ _ _ _ _ hY
        exact HNS.out d (by rw [e]; simp)
      unfold Y.decl at hd
      obtain ⟨t', m', h1, hd⟩ := Y.bind_eq_ok hd
      obtain ⟨e1, hk⟩ := Y.take_ok h1
      injection e1 with e1 e2
      subst e1 e2
      by_cases h7 : t.k = 7
      · rw [if_pos h7] at hd
        obtain ⟨n, m, _, hd⟩ := Y.bind_eq_ok hd
        injection hd with hd _
        rw [← hd] at hdk
        simp at hdk
      rw [if_neg h7] at hd
      obtain ⟨n, m3, h2, hd⟩ := Y.bind_eq_ok hd
      injection hd with hd hm2
      have hk3 : t.k = 4 ∨ t.k = 5 := by rw [← hd] at hdk; exact hdk
      have HD := hide (And.intro hd hm2)
      have HLR : Hid ((t :: m1).length = m3.length + 2) := hide (by rw [(Y.take_ok h2).1]; simp)
      have HTA := hide (fun (x : World) (h : Rd8 L B R px py x (t :: m1)) => take8 L B R px py t m1 t.k t.k x h (by show [t.k, t.k].contains t.k = true; simp))
      have HTB := hide (fun (x : World) (h : Rd8 L B R px py x m1) => take8' L B R px py m1 1 2 x h n m3 h2)
      have HYN := hide hY
      have b9 : (t.k != 9) = true := by simpa using h9
      have b7 : (t.k == 7) = false := by simpa using h7
      have HKK := hide hk3
      unfold refV at HTA HTB
      clear hY hd hm2 h1 h2 hk hdk h9 h7 ho hr hg
      generalize (t :: m1).length = len at *
      generalize htk : t.k = tk at *
      have HTK := hide htk
      clear htk
      have HNR : Hid ((Value.slice Aa acc.length ca).ownBlock = none ∨ (Value.slice Aa acc.length ca).ownBlock ≠ some R) := hide (by obtain ⟨zs, hown⟩ := HO.out.own; exact own_off hown hRlt)
      have HLM : Hid (acc.length + m3.length ≤ 4000) := hide (by have := HLR.out; omega)
      have HNX : Hid (Hid (Y.decls f (acc ++ [d]) (m3.dropWhile Y.isRef) = .ok ds r) ∧ (m3.dropWhile Y.isRef).length < f ∧ (acc ++ [d]).length + (m3.dropWhile Y.isRef).length ≤ ts.length) := hide (by
        have h1 : (m3.dropWhile Y.isRef).length ≤ m3.length := (List.dropWhile_sublist _).length_le
        have h2 := HLR.out
        refine ⟨by rw [HD.out.2]; exact HYN, by omega, ?_⟩
        rw [List.length_append, List.length_singleton]
        omega)
      have HTW : Hid ((m3.takeWhile Y.isRef).length ≤ 4000) := hide (by have h1 : (m3.takeWhile Y.isRef).length ≤ m3.length := (List.takeWhile_sublist _).length_le; have := HLM.out; omega)
      have HDN : Hid (n :: m3.takeWhile Y.isRef = d.ns) := hide (by rw [← HD.out.1])
      have HDC : Hid (∀ (A : Option Addr) (c : Nat), dcells d A c = [.int .i64 tk, .slice A ((m3.takeWhile Y.isRef).length + 1) c]) := hide (by intro A c; unfold dcells; rw [← HD.out.1]; simp only [List.length_cons])
      clear HNS
      rcases HKK.out with rfl | rfl
      · go_wp2_with fail
        refine (HKD.out _ HR.out).mono ?_; rintro _ _ ⟨rfl, rfl⟩
        go_wp2_with fail
        refine (HKD.out _ HR.out).mono ?_; rintro _ _ ⟨rfl, rfl⟩
        go_wp2_with fail
        refine (HTA.out _ HR.out).mono ?_; rintro _ w2 ⟨rfl, hg2, hr2⟩
        have HG2 := hide (HG.out.trans hg2)
        have HR2 := hide hr2
        have HOD2 := hide (HO.out.grown hg2 ⟨HR.out.other, HNR.out⟩)
        clear hg2 hr2
        go_wp2_with fail
        refine (HTB.out _ HR2.out).mono ?_; rintro _ w3 ⟨rfl, hg3, hr3⟩
        have HG3 := hide (HG2.out.trans hg3)
        have HR3 := hide hr3
        have HOD3 := hide (HOD2.out.grown hg3 ⟨HR2.out.other, HNR.out⟩)
        clear hg3 hr3
        go_upto_region 11 with fail
        obtain ⟨w4, hw4⟩ : ∃ x, x = w3.alloc (.cells #[.string (K.str n.t), .complex .f64 (Fl.fl (Pl.pos (L.take n.o)).1) (Fl.fl (Pl.pos (L.take n.o)).2)] 78) := ⟨_, rfl⟩
        rw [← hw4]
        have HG4 : Hid (w.grownBy w4 (some R)) := hide (by rw [hw4]; exact only_alloc HG3.out _)
        have HRD4 : Hid (Rd8 L B R px py w4 m3) := hide (by rw [hw4]; exact HR3.out.alloc _)
        have HB4 : Hid (w4.heap[w3.heap.size]? = some (.cells #[.string (K.str n.t), .complex .f64 (Fl.fl (Pl.pos (L.take n.o)).1) (Fl.fl (Pl.pos (L.take n.o)).2)] 78 (0, 0))) := hide (by rw [hw4]; exact heap_alloc_new w3 _)
        have HOD4 : Hid (OwnD L w4 w.heap.size (.slice Aa acc.length ca) acc) := hide (by rw [hw4]; exact HOD3.out.alloc5 _)
        have hs4 : w.heap.size ≤ w4.heap.size := HG4.out.size
        have hne3 : w3.heap.size ≠ R := by have := HR3.out.lt; omega
        clear hw4 HOD2 HOD3
        have CL0 := fun y : Calm.OnB w3.heap.size w4 => (show y.1.cell? ⟨w3.heap.size, 0, none⟩ = some (.string (K.str n.t)) by rw [cell_of_row y.1 _ 0 _ _ _ (y.2.trans HB4.out)]; rfl)
        have CL1 := fun y : Calm.OnB w3.heap.size w4 => (show y.1.cell? ⟨w3.heap.size, 1, none⟩ = some (.complex .f64 (Fl.fl (Pl.pos (L.take n.o)).1) (Fl.fl (Pl.pos (L.take n.o)).2)) by rw [cell_of_row y.1 _ 1 _ _ _ (y.2.trans HB4.out)]; rfl)
        have hd4 : w4.grownBy w4.drew (some R) := drew_grown w4 _
        have HM := hide (fun (x : World) (h : w4.grownBy x (some R)) => h.block w3.heap.size (Array.getElem?_eq_some_iff.1 HB4.out).1 (fun e => by injection e with e; omega))
        have HRS := hide (fun (x : World) (h : Rd8 L B R px py x m3) => refs8 L B R px py m3 x h)
        refine Calm.region_tree (fun x => ∃ y : Calm.OnB w3.heap.size w4, x = y.1) (.two [0, 1, 2, 4] 3 (.one [] 5 (.one [] 6 (.one [7] 8 (.one [] 9 (.fin [10]))))) 5 (.one [] 3 (.one [] 6 (.one [7] 8 (.one [] 9 (.fin [10])))))) (by kernel_rfl) (by kernel_rfl) (fun _ _ d _ _ h => by cases d <;> exact h) ⟨⟨w4.drew, HM.out _ hd4⟩, rfl⟩ ?_
        simp only [Calm.wpT, Calm.wpSt, Calm.pickOps, List.getElem?_toArray, List.getElem?_cons_zero, List.getElem?_cons_succ]
        repeat (go_big_quiet_step (fail))
        refine wpQuiet_nil ?_
        clear CL0 CL1
        refine ⟨?_, ?_⟩
        · intro KK hKK
          rw [if_pos (by rfl)]
          go_wp2_with fail
          obtain ⟨w5, hw5⟩ : ∃ x, x = (w4.alloc (.cells #[.string (K.str n.t), .complex .f64 (Fl.fl (Pl.pos (L.take n.o)).1) (Fl.fl (Pl.pos (L.take n.o)).2)] 78)).drew := ⟨_, rfl⟩
          rw [← hw5]
          have hg5 : w4.grownBy w5 .none := by rw [hw5]; exact (only_alloc (World.grownBy.refl _ _) _).trans (drew_grown _ _)
          have ho5 : OwnR L w5 w4.heap.size (.slice (some ⟨w4.heap.size, 0, none⟩) 1 1) [n] := by rw [hw5]; exact own_lit L w4 _ n (Nat.le_refl _)
          have hrd5 := HRD4.out.row hg5
          clear hw5
          refine hKK _ _ ⟨⟨w5, HM.out _ (hg5.row _)⟩, rfl⟩ (fun x => ∃ y : Calm.OnB w3.heap.size w4, x = y.1) (fun _ h => h) ⟨⟨w5, HM.out _ (hg5.row _)⟩, rfl⟩ ?_
          refine wpQuiet_nil ?_
          intro KK hKK
          try rw [if_pos (by rfl)]
          go_wp2_with fail
          refine (HRS.out _ hrd5).mono ?_; rintro _ w6 ⟨hg6, v6, rfl, hof, hrd6⟩
          have HG6 : Hid (w4.grownBy w6 (some R)) := hide ((hg5.row _).trans hg6)
          have ho6 := ho5.grown hg6 hrd5.other
          have HRD6 := hide hrd6
          obtain ⟨A6, c6, rfl, _, _, hrr6⟩ := hof.rd
          have HRR6 := hide (hrr6.less hg5.size)
          clear hg5 ho5 hrd5 hg6 hof hrd6 hrr6
          go_wp2_with fail
          refine hKK _ _ ⟨⟨w6, HM.out _ HG6.out⟩, rfl⟩ (fun x => ∃ y : Calm.OnB w3.heap.size w4, x = y.1) (fun _ h => h) ⟨⟨w6, HM.out _ HG6.out⟩, rfl⟩ ?_
          have SV : Hid ((Value.slice (some ⟨w4.heap.size, 0, none⟩) 1 1 : Value) = .slice (some ⟨w4.heap.size, 0, none⟩) 1 1) := hide rfl
          refine wpQuiet_nil ?_
          intro KK hKK
          try rw [if_pos (by rfl)]
          have HO6 := hide ho6
          clear ho6
          refine apnR_wp (.tmp 65) (.tmp 67) _ rfl Tryd.underlying84 L w4.heap.size w4.heap.size _ [n] rfl HO6.out A6 _ c6 _ rfl rfl HRR6.out (by have := HTW.out; rw [List.length_singleton]; omega) (by have := HG6.out.size; omega) ?_
          intro v7 w7 ho7 hg7
          have hg7' : w4.grownBy w7 (some R) := grown_own HG6.out HO6.out hg7
          have hrd7 := HRD6.out.own HO6.out hg7 (by omega)
          have hod7 := HOD4.out.grown hg7' ⟨HRD4.out.other, HNR.out⟩
          obtain ⟨A7, c7, hv7, _, _, hrr7⟩ := ho7.rd
          rw [show ([n] ++ m3.takeWhile Y.isRef).length = (m3.takeWhile Y.isRef).length + 1 by rw [List.length_append, List.length_singleton]; omega] at hv7
          subst hv7
          have HRR7 := hide hrr7
          have HRD7 := hide hrd7
          have HG7 := hide hg7'
          have HOD7 := hide hod7
          have HRRd : Hid (RdR L w7 w.heap.size A7 d.ns) := hide (by rw [← HDN.out]; exact hrr7.less hs4)
          clear ho7 hg7 hg7' hrr7 hrd7 hod7
          go_wp2_with fail
          refine hKK _ _ ⟨⟨w7, HM.out _ HG7.out⟩, rfl⟩ (fun x => ∃ y : Calm.OnB w3.heap.size w4, x = y.1) (fun _ h => h) ⟨⟨w7, HM.out _ HG7.out⟩, rfl⟩ ?_
          repeat (go_big_quiet_step (fail))
          refine wpQuiet_nil ?_
          intro KK hKK
          try rw [if_pos (by rfl)]
          go_wp2_with fail
          have HG8 := hide (only_alloc HG7.out (.cells #[.int .i64 4, .slice A7 ((m3.takeWhile Y.isRef).length + 1) c7] 116))
          have HCE := hide (fun j u (hj : (dcells d A7 c7)[j]? = some u) => (new_cells w7 [.int .i64 4, .slice A7 ((m3.takeWhile Y.isRef).length + 1) c7] 116 j).trans (HDC.out A7 c7 ▸ hj))
          refine hKK _ _ ⟨⟨_, HM.out _ HG8.out⟩, rfl⟩ (fun x => ∃ y : Calm.OnB w3.heap.size w4, x = y.1) (fun _ h => h) ⟨⟨_, HM.out _ HG8.out⟩, rfl⟩ ?_
          refine wpQuiet_nil ?_
          intro KK hKK
          try rw [if_pos (by rfl)]
          refine apD_wp (.tmp 62) (.tmp 70) _ rfl Tryd.underlying50 L w.heap.size (.slice Aa acc.length ca) acc rfl (HOD7.out.alloc5 _) w7.heap.size 1 d A7 c7 rfl HCE.out (HRRd.out.grown (only_alloc (World.grownBy.refl _ _) _) (Other.none _)) (by have := HLM.out; omega) (by have := HG7.out.size; simp; omega) ?_
          intro v9 w9 ho9 hg9
          obtain ⟨z9, hz9⟩ := (HOD7.out.alloc5 (.cells #[.int .i64 4, .slice A7 ((m3.takeWhile Y.isRef).length + 1) c7] 116)).own
          have HG9 := hide (grown_own (HG4.out.trans HG8.out) hz9 hg9)
          have HG94 := hide (World.grownBy.block hg9 w3.heap.size (by have h1 := (Array.getElem?_eq_some_iff.1 HB4.out).1; have h2 := HG8.out.size; omega) (by rcases own_away hz9 ((HM.out _ HG8.out).trans HB4.out) (fun cur e => by injection e with _ e; exact absurd e (by decide)) with q | q; rw [q]; simp; exact fun e => q e.symm))
          have HM9 := hide (HG94.out.trans (HM.out _ HG8.out))
          have HRD9 := hide ((HRD7.out.alloc (.cells #[.int .i64 4, .slice A7 ((m3.takeWhile Y.isRef).length + 1) c7] 116)).own hz9 hg9 hRlt)
          obtain ⟨A9, c9, hv9, _, _⟩ := ho9.form
          rw [show (acc ++ [d]).length = acc.length + 1 by simp] at hv9
          subst hv9
          have HO9 := hide ho9
          clear ho9 hg9
          go_wp2_with fail
          refine hKK _ _ ⟨⟨w9, HM9.out⟩, rfl⟩ (fun x => ∃ y : Calm.OnB w3.heap.size w4, x = y.1) (fun _ h => h) ⟨⟨w9, HM9.out⟩, rfl⟩ ?_
          repeat (go_big_quiet_step (fail))
          refine wpQuiet_nil ?_
          go_wp2_with fail
          go_roundw
          case rel => exact ⟨acc ++ [d], m3.dropWhile Y.isRef, f, HNX.out.1, HNX.out.2.1, HO9.out, HRD9.out, HG9.out, HNX.out.2.2⟩
          case measure => have := HLM.out; simp [slLen]; omega
        · intro KK hKK
          rw [if_pos (by rfl)]
          go_wp2_with fail
          refine (HRS.out _ HRD4.out.drew).mono ?_; rintro _ w5 ⟨hg5', v5, rfl, hof, hrd5⟩
          have hg5 : w4.grownBy w5 (some R) := hd4.trans hg5'
          obtain ⟨A6, c6, rfl, _, _, hrr5⟩ := hof.rd
          go_wp2_with fail
          refine hKK _ _ ⟨⟨w5, HM.out _ hg5⟩, rfl⟩ (fun x => ∃ y : Calm.OnB w3.heap.size w4, x = y.1) (fun _ h => h) ⟨⟨w5, HM.out _ hg5⟩, rfl⟩ ?_
          refine wpQuiet_nil ?_
          intro KK hKK
          try rw [if_pos (by rfl)]
          go_wp2_with fail
          obtain ⟨w6, hw6⟩ : ∃ x, x = w5.alloc (.cells #[.string (K.str n.t), .complex .f64 (Fl.fl (Pl.pos (L.take n.o)).1) (Fl.fl (Pl.pos (L.take n.o)).2)] 78) := ⟨_, rfl⟩
          rw [← hw6]
          have HG6 : Hid (w4.grownBy w6 (some R)) := hide (by rw [hw6]; exact only_alloc hg5 _)
          have ho6 : OwnR L w6 w4.heap.size (.slice (some ⟨w5.heap.size, 0, none⟩) 1 1) [n] := by rw [hw6]; exact own_lit L w5 _ n hg5.size
          have HRD6 : Hid (Rd8 L B R px py w6 (m3.dropWhile Y.isRef)) := hide (by rw [hw6]; exact hrd5.alloc _)
          have HRR6 : Hid (RdR L w6 w4.heap.size A6 (m3.takeWhile Y.isRef)) := hide (by rw [hw6]; exact (hrr5.less (Nat.le_refl _)).grown (only_alloc (World.grownBy.refl _ _) _) (Other.none _))
          clear hw6 hg5 hg5' hof hrr5 hrd5
          refine hKK _ _ ⟨⟨w6, HM.out _ HG6.out⟩, rfl⟩ (fun x => ∃ y : Calm.OnB w3.heap.size w4, x = y.1) (fun _ h => h) ⟨⟨w6, HM.out _ HG6.out⟩, rfl⟩ ?_
          refine wpQuiet_nil ?_
          intro KK hKK
          try rw [if_pos (by rfl)]
          have HO6 := hide ho6
          clear ho6
          refine apnR_wp (.tmp 65) (.tmp 67) _ rfl Tryd.underlying84 L w4.heap.size w4.heap.size _ [n] rfl HO6.out A6 _ c6 _ rfl rfl HRR6.out (by have := HTW.out; rw [List.length_singleton]; omega) (by have := HG6.out.size; omega) ?_
          intro v7 w7 ho7 hg7
          have hg7' : w4.grownBy w7 (some R) := grown_own HG6.out HO6.out hg7
          have hrd7 := HRD6.out.own HO6.out hg7 (by omega)
          have hod7 := HOD4.out.grown hg7' ⟨HRD4.out.other, HNR.out⟩
          obtain ⟨A7, c7, hv7, _, _, hrr7⟩ := ho7.rd
          rw [show ([n] ++ m3.takeWhile Y.isRef).length = (m3.takeWhile Y.isRef).length + 1 by rw [List.length_append, List.length_singleton]; omega] at hv7
          subst hv7
          have HRR7 := hide hrr7
          have HRD7 := hide hrd7
          have HG7 := hide hg7'
          have HOD7 := hide hod7
          have HRRd : Hid (RdR L w7 w.heap.size A7 d.ns) := hide (by rw [← HDN.out]; exact hrr7.less hs4)
          clear ho7 hg7 hg7' hrr7 hrd7 hod7
          go_wp2_with fail
          refine hKK _ _ ⟨⟨w7, HM.out _ HG7.out⟩, rfl⟩ (fun x => ∃ y : Calm.OnB w3.heap.size w4, x = y.1) (fun _ h => h) ⟨⟨w7, HM.out _ HG7.out⟩, rfl⟩ ?_
          repeat (go_big_quiet_step (fail))
          refine wpQuiet_nil ?_
          intro KK hKK
          try rw [if_pos (by rfl)]
          go_wp2_with fail
          have HG8 := hide (only_alloc HG7.out (.cells #[.int .i64 4, .slice A7 ((m3.takeWhile Y.isRef).length + 1) c7] 116))
          have HCE := hide (fun j u (hj : (dcells d A7 c7)[j]? = some u) => (new_cells w7 [.int .i64 4, .slice A7 ((m3.takeWhile Y.isRef).length + 1) c7] 116 j).trans (HDC.out A7 c7 ▸ hj))
          refine hKK _ _ ⟨⟨_, HM.out _ HG8.out⟩, rfl⟩ (fun x => ∃ y : Calm.OnB w3.heap.size w4, x = y.1) (fun _ h => h) ⟨⟨_, HM.out _ HG8.out⟩, rfl⟩ ?_
          refine wpQuiet_nil ?_
          intro KK hKK
          try rw [if_pos (by rfl)]
          refine apD_wp (.tmp 62) (.tmp 70) _ rfl Tryd.underlying50 L w.heap.size (.slice Aa acc.length ca) acc rfl (HOD7.out.alloc5 _) w7.heap.size 1 d A7 c7 rfl HCE.out (HRRd.out.grown (only_alloc (World.grownBy.refl _ _) _) (Other.none _)) (by have := HLM.out; omega) (by have := HG7.out.size; simp; omega) ?_
          intro v9 w9 ho9 hg9
          obtain ⟨z9, hz9⟩ := (HOD7.out.alloc5 (.cells #[.int .i64 4, .slice A7 ((m3.takeWhile Y.isRef).length + 1) c7] 116)).own
          have HG9 := hide (grown_own (HG4.out.trans HG8.out) hz9 hg9)
          have HG94 := hide (World.grownBy.block hg9 w3.heap.size (by have h1 := (Array.getElem?_eq_some_iff.1 HB4.out).1; have h2 := HG8.out.size; omega) (by rcases own_away hz9 ((HM.out _ HG8.out).trans HB4.out) (fun cur e => by injection e with _ e; exact absurd e (by decide)) with q | q; rw [q]; simp; exact fun e => q e.symm))
          have HM9 := hide (HG94.out.trans (HM.out _ HG8.out))
          have HRD9 := hide ((HRD7.out.alloc (.cells #[.int .i64 4, .slice A7 ((m3.takeWhile Y.isRef).length + 1) c7] 116)).own hz9 hg9 hRlt)
          obtain ⟨A9, c9, hv9, _, _⟩ := ho9.form
          rw [show (acc ++ [d]).length = acc.length + 1 by simp] at hv9
          subst hv9
          have HO9 := hide ho9
          clear ho9 hg9
          go_wp2_with fail
          refine hKK _ _ ⟨⟨w9, HM9.out⟩, rfl⟩ (fun x => ∃ y : Calm.OnB w3.heap.size w4, x = y.1) (fun _ h => h) ⟨⟨w9, HM9.out⟩, rfl⟩ ?_
          repeat (go_big_quiet_step (fail))
          refine wpQuiet_nil ?_
          go_wp2_with fail
          go_roundw
          case rel => exact ⟨acc ++ [d], m3.dropWhile Y.isRef, f, HNX.out.1, HNX.out.2.1, HO9.out, HRD9.out, HG9.out, HNX.out.2.2⟩
          case measure => have := HLM.out; simp [slLen]; omega
      · go_wp2_with fail
        refine (HKD.out _ HR.out).mono ?_; rintro _ _ ⟨rfl, rfl⟩
        go_wp2_with fail
        refine (HKD.out _ HR.out).mono ?_; rintro _ _ ⟨rfl, rfl⟩
        go_wp2_with fail
        refine (HTA.out _ HR.out).mono ?_; rintro _ w2 ⟨rfl, hg2, hr2⟩
        have HG2 := hide (HG.out.trans hg2)
        have HR2 := hide hr2
        have HOD2 := hide (HO.out.grown hg2 ⟨HR.out.other, HNR.out⟩)
        clear hg2 hr2
        go_wp2_with fail
        refine (HTB.out _ HR2.out).mono ?_; rintro _ w3 ⟨rfl, hg3, hr3⟩
        have HG3 := hide (HG2.out.trans hg3)
        have HR3 := hide hr3
        have HOD3 := hide (HOD2.out.grown hg3 ⟨HR2.out.other, HNR.out⟩)
        clear hg3 hr3
        go_upto_region 11 with fail
        obtain ⟨w4, hw4⟩ : ∃ x, x = w3.alloc (.cells #[.string (K.str n.t), .complex .f64 (Fl.fl (Pl.pos (L.take n.o)).1) (Fl.fl (Pl.pos (L.take n.o)).2)] 78) := ⟨_, rfl⟩
        rw [← hw4]
        have HG4 : Hid (w.grownBy w4 (some R)) := hide (by rw [hw4]; exact only_alloc HG3.out _)
        have HRD4 : Hid (Rd8 L B R px py w4 m3) := hide (by rw [hw4]; exact HR3.out.alloc _)
        have HB4 : Hid (w4.heap[w3.heap.size]? = some (.cells #[.string (K.str n.t), .complex .f64 (Fl.fl (Pl.pos (L.take n.o)).1) (Fl.fl (Pl.pos (L.take n.o)).2)] 78 (0, 0))) := hide (by rw [hw4]; exact heap_alloc_new w3 _)
        have HOD4 : Hid (OwnD L w4 w.heap.size (.slice Aa acc.length ca) acc) := hide (by rw [hw4]; exact HOD3.out.alloc5 _)
        have hs4 : w.heap.size ≤ w4.heap.size := HG4.out.size
        have hne3 : w3.heap.size ≠ R := by have := HR3.out.lt; omega
        clear hw4 HOD2 HOD3
        have CL0 := fun y : Calm.OnB w3.heap.size w4 => (show y.1.cell? ⟨w3.heap.size, 0, none⟩ = some (.string (K.str n.t)) by rw [cell_of_row y.1 _ 0 _ _ _ (y.2.trans HB4.out)]; rfl)
        have CL1 := fun y : Calm.OnB w3.heap.size w4 => (show y.1.cell? ⟨w3.heap.size, 1, none⟩ = some (.complex .f64 (Fl.fl (Pl.pos (L.take n.o)).1) (Fl.fl (Pl.pos (L.take n.o)).2)) by rw [cell_of_row y.1 _ 1 _ _ _ (y.2.trans HB4.out)]; rfl)
        have hd4 : w4.grownBy w4.drew (some R) := drew_grown w4 _
        have HM := hide (fun (x : World) (h : w4.grownBy x (some R)) => h.block w3.heap.size (Array.getElem?_eq_some_iff.1 HB4.out).1 (fun e => by injection e with e; omega))
        have HRS := hide (fun (x : World) (h : Rd8 L B R px py x m3) => refs8 L B R px py m3 x h)
        refine Calm.region_tree (fun x => ∃ y : Calm.OnB w3.heap.size w4, x = y.1) (.two [0, 1, 2, 4] 3 (.one [] 5 (.one [] 6 (.one [7] 8 (.one [] 9 (.fin [10]))))) 5 (.one [] 3 (.one [] 6 (.one [7] 8 (.one [] 9 (.fin [10])))))) (by kernel_rfl) (by kernel_rfl) (fun _ _ d _ _ h => by cases d <;> exact h) ⟨⟨w4.drew, HM.out _ hd4⟩, rfl⟩ ?_
        simp only [Calm.wpT, Calm.wpSt, Calm.pickOps, List.getElem?_toArray, List.getElem?_cons_zero, List.getElem?_cons_succ]
        repeat (go_big_quiet_step (fail))
        refine wpQuiet_nil ?_
        clear CL0 CL1
        refine ⟨?_, ?_⟩
        · intro KK hKK
          rw [if_pos (by rfl)]
          go_wp2_with fail
          obtain ⟨w5, hw5⟩ : ∃ x, x = (w4.alloc (.cells #[.string (K.str n.t), .complex .f64 (Fl.fl (Pl.pos (L.take n.o)).1) (Fl.fl (Pl.pos (L.take n.o)).2)] 78)).drew := ⟨_, rfl⟩
          rw [← hw5]
          have hg5 : w4.grownBy w5 .none := by rw [hw5]; exact (only_alloc (World.grownBy.refl _ _) _).trans (drew_grown _ _)
          have ho5 : OwnR L w5 w4.heap.size (.slice (some ⟨w4.heap.size, 0, none⟩) 1 1) [n] := by rw [hw5]; exact own_lit L w4 _ n (Nat.le_refl _)
          have hrd5 := HRD4.out.row hg5
          clear hw5
          refine hKK _ _ ⟨⟨w5, HM.out _ (hg5.row _)⟩, rfl⟩ (fun x => ∃ y : Calm.OnB w3.heap.size w4, x = y.1) (fun _ h => h) ⟨⟨w5, HM.out _ (hg5.row _)⟩, rfl⟩ ?_
          refine wpQuiet_nil ?_
          intro KK hKK
          try rw [if_pos (by rfl)]
          go_wp2_with fail
          refine (HRS.out _ hrd5).mono ?_; rintro _ w6 ⟨hg6, v6, rfl, hof, hrd6⟩
          have HG6 : Hid (w4.grownBy w6 (some R)) := hide ((hg5.row _).trans hg6)
          have ho6 := ho5.grown hg6 hrd5.other
          have HRD6 := hide hrd6
          obtain ⟨A6, c6, rfl, _, _, hrr6⟩ := hof.rd
          have HRR6 := hide (hrr6.less hg5.size)
          clear hg5 ho5 hrd5 hg6 hof hrd6 hrr6
          go_wp2_with fail
          refine hKK _ _ ⟨⟨w6, HM.out _ HG6.out⟩, rfl⟩ (fun x => ∃ y : Calm.OnB w3.heap.size w4, x = y.1) (fun _ h => h) ⟨⟨w6, HM.out _ HG6.out⟩, rfl⟩ ?_
          have SV : Hid ((Value.slice (some ⟨w4.heap.size, 0, none⟩) 1 1 : Value) = .slice (some ⟨w4.heap.size, 0, none⟩) 1 1) := hide rfl
          refine wpQuiet_nil ?_
          intro KK hKK
          try rw [if_pos (by rfl)]
          have HO6 := hide ho6
          clear ho6
          refine apnR_wp (.tmp 65) (.tmp 67) _ rfl Tryd.underlying84 L w4.heap.size w4.heap.size _ [n] rfl HO6.out A6 _ c6 _ rfl rfl HRR6.out (by have := HTW.out; rw [List.length_singleton]; omega) (by have := HG6.out.size; omega) ?_
          intro v7 w7 ho7 hg7
          have hg7' : w4.grownBy w7 (some R) := grown_own HG6.out HO6.out hg7
          have hrd7 := HRD6.out.own HO6.out hg7 (by omega)
          have hod7 := HOD4.out.grown hg7' ⟨HRD4.out.other, HNR.out⟩
          obtain ⟨A7, c7, hv7, _, _, hrr7⟩ := ho7.rd
          rw [show ([n] ++ m3.takeWhile Y.isRef).length = (m3.takeWhile Y.isRef).length + 1 by rw [List.length_append, List.length_singleton]; omega] at hv7
          subst hv7
          have HRR7 := hide hrr7
          have HRD7 := hide hrd7
          have HG7 := hide hg7'
          have HOD7 := hide hod7
          have HRRd : Hid (RdR L w7 w.heap.size A7 d.ns) := hide (by rw [← HDN.out]; exact hrr7.less hs4)
          clear ho7 hg7 hg7' hrr7 hrd7 hod7
          go_wp2_with fail
          refine hKK _ _ ⟨⟨w7, HM.out _ HG7.out⟩, rfl⟩ (fun x => ∃ y : Calm.OnB w3.heap.size w4, x = y.1) (fun _ h => h) ⟨⟨w7, HM.out _ HG7.out⟩, rfl⟩ ?_
          repeat (go_big_quiet_step (fail))
          refine wpQuiet_nil ?_
          intro KK hKK
          try rw [if_pos (by rfl)]
          go_wp2_with fail
          have HG8 := hide (only_alloc HG7.out (.cells #[.int .i64 5, .slice A7 ((m3.takeWhile Y.isRef).length + 1) c7] 116))
          have HCE := hide (fun j u (hj : (dcells d A7 c7)[j]? = some u) => (new_cells w7 [.int .i64 5, .slice A7 ((m3.takeWhile Y.isRef).length + 1) c7] 116 j).trans (HDC.out A7 c7 ▸ hj))
          refine hKK _ _ ⟨⟨_, HM.out _ HG8.out⟩, rfl⟩ (fun x => ∃ y : Calm.OnB w3.heap.size w4, x = y.1) (fun _ h => h) ⟨⟨_, HM.out _ HG8.out⟩, rfl⟩ ?_
          refine wpQuiet_nil ?_
          intro KK hKK
          try rw [if_pos (by rfl)]
          refine apD_wp (.tmp 62) (.tmp 70) _ rfl Tryd.underlying50 L w.heap.size (.slice Aa acc.length ca) acc rfl (HOD7.out.alloc5 _) w7.heap.size 1 d A7 c7 rfl HCE.out (HRRd.out.grown (only_alloc (World.grownBy.refl _ _) _) (Other.none _)) (by have := HLM.out; omega) (by have := HG7.out.size; simp; omega) ?_
          intro v9 w9 ho9 hg9
          obtain ⟨z9, hz9⟩ := (HOD7.out.alloc5 (.cells #[.int .i64 5, .slice A7 ((m3.takeWhile Y.isRef).length + 1) c7] 116)).own
          have HG9 := hide (grown_own (HG4.out.trans HG8.out) hz9 hg9)
          have HG94 := hide (World.grownBy.block hg9 w3.heap.size (by have h1 := (Array.getElem?_eq_some_iff.1 HB4.out).1; have h2 := HG8.out.size; omega) (by rcases own_away hz9 ((HM.out _ HG8.out).trans HB4.out) (fun cur e => by injection e with _ e; exact absurd e (by decide)) with q | q; rw [q]; simp; exact fun e => q e.symm))
          have HM9 := hide (HG94.out.trans (HM.out _ HG8.out))
          have HRD9 := hide ((HRD7.out.alloc (.cells #[.int .i64 5, .slice A7 ((m3.takeWhile Y.isRef).length + 1) c7] 116)).own hz9 hg9 hRlt)
          obtain ⟨A9, c9, hv9, _, _⟩ := ho9.form
          rw [show (acc ++ [d]).length = acc.length + 1 by simp] at hv9
          subst hv9
          have HO9 := hide ho9
          clear ho9 hg9
          go_wp2_with fail
          refine hKK _ _ ⟨⟨w9, HM9.out⟩, rfl⟩ (fun x => ∃ y : Calm.OnB w3.heap.size w4, x = y.1) (fun _ h => h) ⟨⟨w9, HM9.out⟩, rfl⟩ ?_
          repeat (go_big_quiet_step (fail))
          refine wpQuiet_nil ?_
          go_wp2_with fail
          go_roundw
          case rel => exact ⟨acc ++ [d], m3.dropWhile Y.isRef, f, HNX.out.1, HNX.out.2.1, HO9.out, HRD9.out, HG9.out, HNX.out.2.2⟩
          case measure => have := HLM.out; simp [slLen]; omega
        · intro KK hKK
          rw [if_pos (by rfl)]
          go_wp2_with fail
          refine (HRS.out _ HRD4.out.drew).mono ?_; rintro _ w5 ⟨hg5', v5, rfl, hof, hrd5⟩
          have hg5 : w4.grownBy w5 (some R) := hd4.trans hg5'
          obtain ⟨A6, c6, rfl, _, _, hrr5⟩ := hof.rd
          go_wp2_with fail
          refine hKK _ _ ⟨⟨w5, HM.out _ hg5⟩, rfl⟩ (fun x => ∃ y : Calm.OnB w3.heap.size w4, x = y.1) (fun _ h => h) ⟨⟨w5, HM.out _ hg5⟩, rfl⟩ ?_
          refine wpQuiet_nil ?_
          intro KK hKK
          try rw [if_pos (by rfl)]
          go_wp2_with fail
          obtain ⟨w6, hw6⟩ : ∃ x, x = w5.alloc (.cells #[.string (K.str n.t), .complex .f64 (Fl.fl (Pl.pos (L.take n.o)).1) (Fl.fl (Pl.pos (L.take n.o)).2)] 78) := ⟨_, rfl⟩
          rw [← hw6]
          have HG6 : Hid (w4.grownBy w6 (some R)) := hide (by rw [hw6]; exact only_alloc hg5 _)
          have ho6 : OwnR L w6 w4.heap.size (.slice (some ⟨w5.heap.size, 0, none⟩) 1 1) [n] := by rw [hw6]; exact own_lit L w5 _ n hg5.size
          have HRD6 : Hid (Rd8 L B R px py w6 (m3.dropWhile Y.isRef)) := hide (by rw [hw6]; exact hrd5.alloc _)
          have HRR6 : Hid (RdR L w6 w4.heap.size A6 (m3.takeWhile Y.isRef)) := hide (by rw [hw6]; exact (hrr5.less (Nat.le_refl _)).grown (only_alloc (World.grownBy.refl _ _) _) (Other.none _))
          clear hw6 hg5 hg5' hof hrr5 hrd5
          refine hKK _ _ ⟨⟨w6, HM.out _ HG6.out⟩, rfl⟩ (fun x => ∃ y : Calm.OnB w3.heap.size w4, x = y.1) (fun _ h => h) ⟨⟨w6, HM.out _ HG6.out⟩, rfl⟩ ?_
          refine wpQuiet_nil ?_
          intro KK hKK
          try rw [if_pos (by rfl)]
          have HO6 := hide ho6
          clear ho6
          refine apnR_wp (.tmp 65) (.tmp 67) _ rfl Tryd.underlying84 L w4.heap.size w4.heap.size _ [n] rfl HO6.out A6 _ c6 _ rfl rfl HRR6.out (by have := HTW.out; rw [List.length_singleton]; omega) (by have := HG6.out.size; omega) ?_
          intro v7 w7 ho7 hg7
          have hg7' : w4.grownBy w7 (some R) := grown_own HG6.out HO6.out hg7
          have hrd7 := HRD6.out.own HO6.out hg7 (by omega)
          have hod7 := HOD4.out.grown hg7' ⟨HRD4.out.other, HNR.out⟩
          obtain ⟨A7, c7, hv7, _, _, hrr7⟩ := ho7.rd
          rw [show ([n] ++ m3.takeWhile Y.isRef).length = (m3.takeWhile Y.isRef).length + 1 by rw [List.length_append, List.length_singleton]; omega] at hv7
          subst hv7
          have HRR7 := hide hrr7
          have HRD7 := hide hrd7
          have HG7 := hide hg7'
          have HOD7 := hide hod7
          have HRRd : Hid (RdR L w7 w.heap.size A7 d.ns) := hide (by rw [← HDN.out]; exact hrr7.less hs4)
          clear ho7 hg7 hg7' hrr7 hrd7 hod7
          go_wp2_with fail
          refine hKK _ _ ⟨⟨w7, HM.out _ HG7.out⟩, rfl⟩ (fun x => ∃ y : Calm.OnB w3.heap.size w4, x = y.1) (fun _ h => h) ⟨⟨w7, HM.out _ HG7.out⟩, rfl⟩ ?_
          repeat (go_big_quiet_step (fail))
          refine wpQuiet_nil ?_
          intro KK hKK
          try rw [if_pos (by rfl)]
          go_wp2_with fail
          have HG8 := hide (only_alloc HG7.out (.cells #[.int .i64 5, .slice A7 ((m3.takeWhile Y.isRef).length + 1) c7] 116))
          have HCE := hide (fun j u (hj : (dcells d A7 c7)[j]? = some u) => (new_cells w7 [.int .i64 5, .slice A7 ((m3.takeWhile Y.isRef).length + 1) c7] 116 j).trans (HDC.out A7 c7 ▸ hj))
          refine hKK _ _ ⟨⟨_, HM.out _ HG8.out⟩, rfl⟩ (fun x => ∃ y : Calm.OnB w3.heap.size w4, x = y.1) (fun _ h => h) ⟨⟨_, HM.out _ HG8.out⟩, rfl⟩ ?_
          refine wpQuiet_nil ?_
          intro KK hKK
          try rw [if_pos (by rfl)]
          refine apD_wp (.tmp 62) (.tmp 70) _ rfl Tryd.underlying50 L w.heap.size (.slice Aa acc.length ca) acc rfl (HOD7.out.alloc5 _) w7.heap.size 1 d A7 c7 rfl HCE.out (HRRd.out.grown (only_alloc (World.grownBy.refl _ _) _) (Other.none _)) (by have := HLM.out; omega) (by have := HG7.out.size; simp; omega) ?_
          intro v9 w9 ho9 hg9
          obtain ⟨z9, hz9⟩ := (HOD7.out.alloc5 (.cells #[.int .i64 5, .slice A7 ((m3.takeWhile Y.isRef).length + 1) c7] 116)).own
          have HG9 := hide (grown_own (HG4.out.trans HG8.out) hz9 hg9)
          have HG94 := hide (World.grownBy.block hg9 w3.heap.size (by have h1 := (Array.getElem?_eq_some_iff.1 HB4.out).1; have h2 := HG8.out.size; omega) (by rcases own_away hz9 ((HM.out _ HG8.out).trans HB4.out) (fun cur e => by injection e with _ e; exact absurd e (by decide)) with q | q; rw [q]; simp; exact fun e => q e.symm))
          have HM9 := hide (HG94.out.trans (HM.out _ HG8.out))
          have HRD9 := hide ((HRD7.out.alloc (.cells #[.int .i64 5, .slice A7 ((m3.takeWhile Y.isRef).length + 1) c7] 116)).own hz9 hg9 hRlt)
          obtain ⟨A9, c9, hv9, _, _⟩ := ho9.form
          rw [show (acc ++ [d]).length = acc.length + 1 by simp] at hv9
          subst hv9
          have HO9 := hide ho9
          clear ho9 hg9
          go_wp2_with fail
          refine hKK _ _ ⟨⟨w9, HM9.out⟩, rfl⟩ (fun x => ∃ y : Calm.OnB w3.heap.size w4, x = y.1) (fun _ h => h) ⟨⟨w9, HM9.out⟩, rfl⟩ ?_
          repeat (go_big_quiet_step (fail))
          refine wpQuiet_nil ?_
          go_wp2_with fail
          go_roundw
          case rel => exact ⟨acc ++ [d], m3.dropWhile Y.isRef, f, HNX.out.1, HNX.out.2.1, HO9.out, HRD9.out, HG9.out, HNX.out.2.2⟩
          case measure => have := HLM.out; simp [slLen]; omega
end Go.Proofs.YtkfelkpilaipnaaDoor

namespace Go.Proofs.YtkfelkpilaipnaaDoor
set_option maxRecDepth 100000
open Go.RowKit

namespace T
theorem pre_two (l : List Int) (a b : Int) (hl : K.Bytes l) (hab : K.Bytes [a, b]) (h : pre l [a, b] = true) : l.getD 0 0 = a ∧ l.getD 1 0 = b := by
  have hlen := pre_len l _ h
  rw [pre_take l [a, b], beq_iff_eq, str_list, str_list] at h
  have h2 := K.bytes_inj (hl.take 2) hab h
  match l, hlen with
  | x :: y :: r, _ =>
    simp at h2
    exact ⟨h2.1, h2.2⟩
theorem piece_blank (l : List Int) (h : l.getD 0 0 = 32 ∨ l.getD 0 0 = 9 ∨ l.getD 0 0 = 10 ∨ l.getD 0 0 = 13) : piece l = (0, 1, 0) := by
  unfold piece
  simp only
  rw [if_pos h]
theorem piece_47 (l : List Int) (h : l.getD 0 0 = 47) : piece l = comment l := by
  unfold piece
  simp only [h]
  rfl
theorem piece_60 (l : List Int) (h : l.getD 0 0 = 60) : piece l = skip (line l) 1 [62] := by
  unfold piece
  simp only [h]
  rfl
theorem piece_123 (l : List Int) (h : l.getD 0 0 = 123) : piece l = action l := by
  unfold piece
  simp only [h]
  rfl
theorem piece_37 (l : List Int) (h : l.getD 0 0 = 37) : piece l = percent l := by
  unfold piece
  simp only [h]
  rfl
theorem piece_else (l : List Int) (hb : ¬ (l.getD 0 0 = 32 ∨ l.getD 0 0 = 9 ∨ l.getD 0 0 = 10 ∨ l.getD 0 0 = 13)) (h1 : pre l [47, 42] = false) (h2 : pre l [47, 47] = false) (h3 : pre l [37, 123] = false) (h4 : ¬ l.getD 0 0 = 60) (h5 : ¬ l.getD 0 0 = 123) (he : (piece l).2.2 = 0) : (piece l).1 ≠ 0 := by
  revert he
  unfold piece
  simp only
  rw [if_neg hb, if_neg h4, if_neg h5]
  split
  · unfold comment
    rw [h1, h2]
    simp
  split
  · unfold percent
    rw [h3]
    have hw := wkind_bd (List.drop 1 (List.take (psize l) l))
    split
    · simp
    split
    · rename_i h; simp at h
    split
    · simp
    · rename_i hh; intro _; exact hh
  split
  · unfold literal
    split
    · simp
    split
    · simp
    split <;> simp
  split
  · simp
  split
  · simp
  split
  · simp
  · unfold name
    split
    · simp
    split <;> simp
end T

/-- What skip answers of a piece that is told. -/
def skipV (k : Nat) (x : T.P3) : Value := .tuple #[.int .i64 (if x.1 = 0 then ((k + x.2.1 : Nat) : Int) else k), .bool (x.1 == 0)]
theorem slice_to8 (w : World) (A : Option Addr) (c n k : Nat) (hk : k ≤ c) : (Instr.sliceAt 36 (.slice A n c) none (some (.int .i64 k)) none).run Tryd.prog w = .ok (.slice A k c) w := slice_to w A c n k hk
theorem skipV_yes {k : Nat} {x : T.P3} {P : Int} (h : x.1 = 0) (hp : P = ((k + x.2.1 : Nat) : Int)) : skipV k x = .tuple #[.int .i64 P, .bool true] := by
  unfold skipV; rw [if_pos h, h, hp]; rfl
theorem skipV_no {k : Nat} {x : T.P3} (h : x.1 ≠ 0) : skipV k x = .tuple #[.int .i64 k, .bool false] := by
  unfold skipV; rw [if_neg h, show (x.1 == 0) = false by simpa using h]
theorem past_skip (k : Nat) (m : List Int) (f : Nat) (s : List Int) (P : Int) (hP : T.pastV m s (k + f) = P) (l : List Int) (hl : m.drop (k + f) = l.drop f) (he : (T.skip l f s).2.2 = 0) : P = ((k + (T.skip l f s).2.1 : Nat) : Int) ∧ (T.skip l f s).1 = 0 := by
  unfold T.pastV at hP
  rw [hl] at hP
  unfold T.skip at he ⊢
  by_cases h : T.ix (l.drop f) s < 0
  · rw [if_pos h] at he; simp at he
  · rw [if_neg h] at he ⊢
    rw [if_neg h] at hP
    refine ⟨?_, rfl⟩
    simp only
    omega

set_option maxHeartbeats 4000000 in
theorem rskip_any (A : Option Addr) (c B : Nat) (L : List Int) (k : Nat) (w : World) (hr : RdB w B A L) (hl : K.Bytes L) (hc : L.length ≤ c) (hn : L.length ≤ 5000) (hk : k < L.length) (he : (T.piece (L.drop k)).2.2 = 0) :
    Calls Tryd.prog 48 #[.slice A L.length c, .int .i64 k] w fun e w' => e = .returned (skipV k (T.piece (L.drop k))) ∧ w = w' := by
  obtain ⟨g, o, rfl, _, hcl⟩ := hr (by omega)
  have hcell := hcl k hk
  have hz : (L.drop k).getD 0 0 = L.getD k 0 := by rw [Go.Proofs.YtkfelkpilaipnaaDoor.L.cons_drop L k hk]; rfl
  have H1 := hide (rhas_any _ c B L [47, 42] k w hr hl hc hn (by omega) (by decide))
  have H2 := hide (rhas_any _ c B L [47, 47] k w hr hl hc hn (by omega) (by decide))
  have H3 := hide (rhas_any _ c B L [37, 123] k w hr hl hc hn (by omega) (by decide))
  rw [show K.str [47, 42] = ⟨#[47, 42]⟩ from rfl] at H1
  rw [show K.str [47, 47] = ⟨#[47, 47]⟩ from rfl] at H2
  rw [show K.str [37, 123] = ⟨#[37, 123]⟩ from rfl] at H3
  have HPB := hide (T.piece_blank (L.drop k))
  have HEL := hide (T.piece_else (L.drop k))
  rw [hz] at HPB HEL
  have HR := hide hr
  have HL := hide hl
  have HE := hide he
  have HZ := hide hz
  have hlb := hl.drop k
  clear hcl hr hl he hz
  by_cases hb : L.getD k 0 = 32 ∨ L.getD k 0 = 9 ∨ L.getD k 0 = 10 ∨ L.getD k 0 = 13
  · have hp := HPB.out hb
    rw [hp]
    unfold skipV
    clear H1 H2 H3 HPB HEL hp HE hlb
    generalize L.getD k 0 = z at *
    rcases hb with rfl | rfl | rfl | rfl
    all_goals
      go_enter Tryd.func48, Tryd.ntmps48
      go_wp2
      go_ret2
      exact ⟨rfl, rfl⟩
  · have n1 : (L.getD k 0 == 32) = false := by simpa using fun e => hb (.inl e)
    have n2 : (L.getD k 0 == 9) = false := by simpa using fun e => hb (.inr (.inl e))
    have n3 : (L.getD k 0 == 10) = false := by simpa using fun e => hb (.inr (.inr (.inl e)))
    have n4 : (L.getD k 0 == 13) = false := by simpa using fun e => hb (.inr (.inr (.inr e)))
    rcases hp1 : T.pre (L.drop k) [47, 42] with _ | _
    · rw [hp1] at H1
      rcases hp2 : T.pre (L.drop k) [47, 47] with _ | _
      · rw [hp2] at H2
        rcases hp3 : T.pre (L.drop k) [37, 123] with _ | _
        · rw [hp3] at H3
          by_cases h60 : L.getD k 0 = 60
          · have hz1 : (L.drop k).getD 0 0 = 60 := HZ.out.trans h60
            have hpc : T.piece (L.drop k) = T.skip (T.line (L.drop k)) 1 [62] := T.piece_60 _ hz1
            have hll := T.line_le (L.drop k)
            rw [List.length_drop] at hll
            have hlt : T.line (L.drop k) = (L.drop k).take (T.line (L.drop k)).length := by
              unfold T.line
              have hx := T.ix_room (L.drop k) [10]
              split
              · rw [List.length_take, Nat.min_eq_left (by have := hx (by assumption); omega)]
              · rw [List.take_length]
            have hmm : (L.take (k + (T.line (L.drop k)).length)).drop (k + 1) = (T.line (L.drop k)).drop 1 := by
              have e : ∀ ll, (L.take (k + ll)).drop (k + 1) = ((L.drop k).take ll).drop 1 := fun ll => by
                rw [List.drop_take, List.drop_take, List.drop_drop]
                congr 1
                omega
              exact (e _).trans (congrArg (List.drop 1) hlt.symm)
            have hq := past_skip k (L.take (k + (T.line (L.drop k)).length)) 1 [62] _ rfl (T.line (L.drop k)) hmm (by rw [← hpc]; exact HE.out)
            have hv := skipV_yes (k := k) hq.2 hq.1
            rw [← hpc] at hv
            rw [hv]
            have HLN := hide (rline_any _ c B L k w HR.out HL.out hn (by omega))
            have hml : (L.take (k + (T.line (L.drop k)).length)).length = k + (T.line (L.drop k)).length := by rw [List.length_take]; omega
            have HP := hide (rpast_any _ c B (L.take (k + (T.line (L.drop k)).length)) [62] (k + 1) w (HR.out.take _) (HL.out.take _) (by rw [hml]; omega) (by rw [hml]; omega) (by omega) (by decide) (by decide))
            rw [hml, show K.str [62] = ⟨#[62]⟩ from rfl, show ((k + 1 : Nat) : Int) = (k : Int) + 1 by omega] at HP
            have S1 := fun w => slice_to8 w (some ⟨g, o, none⟩) c L.length (k + (T.line (L.drop k)).length) (by omega)
            have q60 : (L.getD k 0 == 60) = true := by rw [h60]; rfl
            generalize T.pastV (L.take (k + (T.line (L.drop k)).length)) [62] (k + 1) = P at *
            generalize k + (T.line (L.drop k)).length = m at *
            clear hb HPB HEL hlb hpc hq HE hz1 hv hll hlt hmm hml hp1 hp2 hp3 h60 HZ
            generalize L.getD k 0 = z at *
            go_enter Tryd.func48, Tryd.ntmps48
            go_wp2_with fail
            refine H1.out.mono ?_; rintro _ w' ⟨rfl, rfl⟩
            go_wp2_with fail
            refine H2.out.mono ?_; rintro _ w' ⟨rfl, rfl⟩
            go_wp2_with fail
            refine H3.out.mono ?_; rintro _ w' ⟨rfl, rfl⟩
            go_wp2_with fail
            refine HLN.out.mono ?_; rintro _ w' ⟨rfl, rfl⟩
            go_wp2_with fail
            refine HP.out.mono ?_; rintro _ w' ⟨rfl, rfl⟩
            go_wp2
            go_ret2
            exact ⟨rfl, rfl⟩
          · have q60 : (L.getD k 0 == 60) = false := by simpa using h60
            by_cases h123 : L.getD k 0 = 123
            · have hz1 : (L.drop k).getD 0 0 = 123 := HZ.out.trans h123
              have hpc : T.piece (L.drop k) = T.action (L.drop k) := T.piece_123 _ hz1
              rcases hact : T.act ((L.drop k).length + 1) (L.drop k) 0 with _ | n
              · exfalso
                have := HE.out
                rw [hpc] at this
                unfold T.action at this
                rw [hact] at this
                simp at this
              · have hpc2 : T.piece (L.drop k) = (0, n, 0) := by rw [hpc]; unfold T.action; rw [hact]
                have hv : skipV k (T.piece (L.drop k)) = .tuple #[.int .i64 ((k + n : Nat) : Int), .bool true] := skipV_yes (by rw [hpc2]) (by rw [hpc2])
                rw [hv]
                have HP := hide (raction_any _ c B L k n _ w HR.out hn hk h123 hact)
                have q123 : (L.getD k 0 == 123) = true := by rw [h123]; rfl
                generalize k + n = P at *
                clear hb HPB HEL hlb hpc hpc2 hact HE hz1 hv hp1 hp2 hp3 h60 h123 HZ
                generalize L.getD k 0 = z at *
                go_enter Tryd.func48, Tryd.ntmps48
                go_wp2_with fail
                refine H1.out.mono ?_; rintro _ w' ⟨rfl, rfl⟩
                go_wp2_with fail
                refine H2.out.mono ?_; rintro _ w' ⟨rfl, rfl⟩
                go_wp2_with fail
                refine H3.out.mono ?_; rintro _ w' ⟨rfl, rfl⟩
                go_wp2_with fail
                refine HP.out.mono ?_; rintro _ w' ⟨rfl, rfl⟩
                go_wp2
                go_ret2
                exact ⟨rfl, rfl⟩
            · have q123 : (L.getD k 0 == 123) = false := by simpa using h123
              have hv := skipV_no (k := k) (HEL.out hb hp1 hp2 hp3 h60 h123 HE.out)
              rw [hv]
              clear hb HPB HEL hlb HE hv hp1 hp2 hp3 h60 h123 HZ
              generalize L.getD k 0 = z at *
              go_enter Tryd.func48, Tryd.ntmps48
              go_wp2_with fail
              refine H1.out.mono ?_; rintro _ w' ⟨rfl, rfl⟩
              go_wp2_with fail
              refine H2.out.mono ?_; rintro _ w' ⟨rfl, rfl⟩
              go_wp2_with fail
              refine H3.out.mono ?_; rintro _ w' ⟨rfl, rfl⟩
              go_wp2
              go_ret2
              exact ⟨rfl, rfl⟩
        · rw [hp3] at H3
          have hn37 : T.pre (L.drop k) [37, 37] = false := by
            rcases hh : T.pre (L.drop k) [37, 37] with _ | _
            · rfl
            · have e1 := (T.pre_two _ _ _ hlb (by intro x hx; simp at hx; omega) hh).2
              have e2 := (T.pre_two _ _ _ hlb (by intro x hx; simp at hx; omega) hp3).2
              omega
          have hz1 := (T.pre_two _ _ _ hlb (by intro x hx; simp at hx; omega) hp3).1
          have hpc : T.piece (L.drop k) = T.skip (L.drop k) 2 [37, 125] := by rw [T.piece_37 _ hz1]; unfold T.percent; rw [if_neg (by rw [hn37]; simp), if_pos hp3]
          have hq := past_skip k L 2 [37, 125] _ rfl (L.drop k) (by rw [List.drop_drop]) (by rw [← hpc]; exact HE.out)
          have hv := skipV_yes (k := k) hq.2 hq.1
          rw [← hpc] at hv
          rw [hv]
          have HP := hide (rpast_any _ c B L [37, 125] (k + 2) w HR.out HL.out hc hn (by omega) (by decide) (by decide))
          rw [show K.str [37, 125] = ⟨#[37, 125]⟩ from rfl, show ((k + 2 : Nat) : Int) = (k : Int) + 2 by omega] at HP
          clear hb HPB HEL hlb hpc hq HE hz1 hv hp1 hp2 hp3 hn37 HZ
          generalize T.pastV L [37, 125] (k + 2) = P at *
          generalize L.getD k 0 = z at *
          go_enter Tryd.func48, Tryd.ntmps48
          go_wp2_with fail
          refine H1.out.mono ?_; rintro _ w' ⟨rfl, rfl⟩
          go_wp2_with fail
          refine H2.out.mono ?_; rintro _ w' ⟨rfl, rfl⟩
          go_wp2_with fail
          refine H3.out.mono ?_; rintro _ w' ⟨rfl, rfl⟩
          go_wp2_with fail
          refine HP.out.mono ?_; rintro _ w' ⟨rfl, rfl⟩
          go_wp2
          go_ret2
          exact ⟨rfl, rfl⟩
      · rw [hp2] at H2
        have hz1 := (T.pre_two _ _ _ hlb (by intro x hx; simp at hx; omega) hp2).1
        have hpc : T.piece (L.drop k) = (0, (T.line (L.drop k)).length, 0) := by rw [T.piece_47 _ hz1]; unfold T.comment; rw [if_neg (by rw [hp1]; simp), if_pos hp2]
        have hv : skipV k (T.piece (L.drop k)) = .tuple #[.int .i64 ((k + (T.line (L.drop k)).length : Nat) : Int), .bool true] := skipV_yes (by rw [hpc]) (by rw [hpc])
        rw [hv]
        have HP := hide (rline_any _ c B L k w HR.out HL.out hn (by omega))
        generalize k + (T.line (L.drop k)).length = P at *
        clear hb HPB HEL hlb hpc HE hz1 hv hp1 hp2 HZ
        generalize L.getD k 0 = z at *
        go_enter Tryd.func48, Tryd.ntmps48
        go_wp2_with fail
        refine H1.out.mono ?_; rintro _ w' ⟨rfl, rfl⟩
        go_wp2_with fail
        refine H2.out.mono ?_; rintro _ w' ⟨rfl, rfl⟩
        go_wp2_with fail
        refine HP.out.mono ?_; rintro _ w' ⟨rfl, rfl⟩
        go_wp2
        go_ret2
        exact ⟨rfl, rfl⟩
    · rw [hp1] at H1
      have hz1 := (T.pre_two _ _ _ hlb (by intro x hx; simp at hx; omega) hp1).1
      have hpc : T.piece (L.drop k) = T.skip (L.drop k) 2 [42, 47] := by rw [T.piece_47 _ hz1]; unfold T.comment; rw [if_pos hp1]
      have hq := past_skip k L 2 [42, 47] _ rfl (L.drop k) (by rw [List.drop_drop]) (by rw [← hpc]; exact HE.out)
      have hv := skipV_yes (k := k) hq.2 hq.1
      rw [← hpc] at hv
      rw [hv]
      have HP := hide (rpast_any _ c B L [42, 47] (k + 2) w HR.out HL.out hc hn (by omega) (by decide) (by decide))
      rw [show K.str [42, 47] = ⟨#[42, 47]⟩ from rfl, show ((k + 2 : Nat) : Int) = (k : Int) + 2 by omega] at HP
      clear hb HPB HEL hlb hpc hq HE hz1 hv hp1 HZ
      generalize T.pastV L [42, 47] (k + 2) = P at *
      generalize L.getD k 0 = z at *
      go_enter Tryd.func48, Tryd.ntmps48
      go_wp2_with fail
      refine H1.out.mono ?_; rintro _ w' ⟨rfl, rfl⟩
      go_wp2_with fail
      refine HP.out.mono ?_; rintro _ w' ⟨rfl, rfl⟩
      go_wp2
      go_ret2
      exact ⟨rfl, rfl⟩
end Go.Proofs.YtkfelkpilaipnaaDoor

namespace Go.Proofs.YtkfelkpilaipnaaDoor
set_option maxRecDepth 100000
open Go.RowKit

theorem rmark_any (z : Int) (w : World) : Calls Tryd.prog 80 #[.int .u8 z] w fun e w' => e = .returned (.int .i64 (if z = 58 then 10 else if z = 124 then 11 else if z = 59 then 12 else 0)) ∧ w = w' := by
  by_cases h1 : z = 58
  · subst h1
    go_enter Tryd.func80, Tryd.ntmps80
    go_wp2
    go_ret
    exact ⟨rfl, rfl⟩
  · by_cases h2 : z = 124
    · subst h2
      go_enter Tryd.func80, Tryd.ntmps80
      go_wp2
      go_ret
      exact ⟨rfl, rfl⟩
    · by_cases h3 : z = 59
      · subst h3
        go_enter Tryd.func80, Tryd.ntmps80
        go_wp2
        go_ret
        exact ⟨rfl, rfl⟩
      · rw [if_neg h1, if_neg h2, if_neg h3]
        have q1 : (z == 58) = false := by simpa using h1
        have q2 : (z == 124) = false := by simpa using h2
        have q3 : (z == 59) = false := by simpa using h3
        clear h1 h2 h3
        go_enter Tryd.func80, Tryd.ntmps80
        go_wp2
        go_ret
        exact ⟨rfl, rfl⟩

/-- One comparison of a text with a constant. -/
theorem str_b (l m : List Int) (hl : K.Bytes l) (hm : K.Bytes m) : ((K.str l).toList == (K.str m).toList) = decide (l = m) := by
  rw [T.str_list, T.str_list, Bool.eq_iff_iff, beq_iff_eq, decide_eq_true_iff]
  exact ⟨fun h => K.bytes_inj hl hm h, fun h => by rw [h]⟩
theorem rpercent_any (l : List Int) (hl : K.Bytes l) (w : World) : Calls Tryd.prog 79 #[.string (K.str l)] w fun e w' => e = .returned (.int .i64 (T.wkind l)) ∧ w = w' := by
  have b1 := str_b l [116, 111, 107, 101, 110] hl (by intro x hx; simp at hx; omega)
  have b2 := str_b l [108, 101, 102, 116] hl (by intro x hx; simp at hx; omega)
  have b3 := str_b l [114, 105, 103, 104, 116] hl (by intro x hx; simp at hx; omega)
  have b4 := str_b l [110, 111, 110, 97, 115, 115, 111, 99] hl (by intro x hx; simp at hx; omega)
  have b5 := str_b l [115, 116, 97, 114, 116] hl (by intro x hx; simp at hx; omega)
  have b6 := str_b l [112, 114, 101, 99] hl (by intro x hx; simp at hx; omega)
  rw [show (K.str [116, 111, 107, 101, 110]).toList = [116, 111, 107, 101, 110] by rw [ByteArray.toList_eq]; rfl] at b1
  rw [show (K.str [108, 101, 102, 116]).toList = [108, 101, 102, 116] by rw [ByteArray.toList_eq]; rfl] at b2
  rw [show (K.str [114, 105, 103, 104, 116]).toList = [114, 105, 103, 104, 116] by rw [ByteArray.toList_eq]; rfl] at b3
  rw [show (K.str [110, 111, 110, 97, 115, 115, 111, 99]).toList = [110, 111, 110, 97, 115, 115, 111, 99] by rw [ByteArray.toList_eq]; rfl] at b4
  rw [show (K.str [115, 116, 97, 114, 116]).toList = [115, 116, 97, 114, 116] by rw [ByteArray.toList_eq]; rfl] at b5
  rw [show (K.str [112, 114, 101, 99]).toList = [112, 114, 101, 99] by rw [ByteArray.toList_eq]; rfl] at b6
  unfold T.wkind
  clear hl
  generalize hs : K.str l = st at *
  clear hs
  go_enter Tryd.func79, Tryd.ntmps79
  go_wp2
  all_goals go_ret
  all_goals exact ⟨rfl, rfl⟩

namespace T
theorem skip_kind (l : List Int) (f : Nat) (s : List Int) : (skip l f s).1 = 0 := by unfold skip; split <;> rfl
theorem head_z {z : Int} (h : head z = true) : (97 ≤ z ∧ z ≤ 122) ∨ (65 ≤ z ∧ z ≤ 90) ∨ z = 95 := by
  unfold head small at h
  simp only [Bool.or_eq_true, Bool.and_eq_true, decide_eq_true_eq, beq_iff_eq] at h
  omega
theorem piece_name (l : List Int) (h : head (l.getD 0 0) = true) : piece l = name l := by
  have hz := head_z h
  unfold piece
  simp only
  rw [if_neg (by omega), if_neg (by omega), if_neg (by omega), if_neg (by omega), if_neg (by omega), if_neg (by omega), if_neg (by omega), if_neg (by omega), if_neg (by omega)]
theorem piece_39 (l : List Int) (h : l.getD 0 0 = 39) : piece l = literal l := by
  unfold piece
  simp only [h]
  rfl
/-- Any other piece that is a token is a sign. -/
theorem piece_sign (l : List Int) (h1 : head (l.getD 0 0) = false) (h2 : ¬ l.getD 0 0 = 39) (h3 : ¬ l.getD 0 0 = 37) (he : (piece l).2.2 = 0) (hk : (piece l).1 ≠ 0) : piece l = ((if l.getD 0 0 = 58 then 10 else if l.getD 0 0 = 124 then 11 else if l.getD 0 0 = 59 then 12 else 0), 1, 0) ∧ (if l.getD 0 0 = 58 then (10 : Int) else if l.getD 0 0 = 124 then 11 else if l.getD 0 0 = 59 then 12 else 0) ≠ 0 := by
  have hns : nsize l = 0 := by
    cases l with
    | nil => rfl
    | cons z r => rw [nsize_cons, if_neg]; simpa using h1
  revert he hk
  unfold piece
  simp only
  split
  · intro _ h; exact absurd rfl h
  split
  · intro _ h
    unfold comment at h
    split at h
    · exact absurd (skip_kind _ _ _) h
    split at h <;> exact absurd rfl h
  split
  · intro _ h; exact absurd (skip_kind _ _ _) h
  split
  · intro _ h
    unfold action at h
    split at h <;> exact absurd rfl h
  split
  · exact fun _ _ => ⟨rfl, by decide⟩
  split
  · exact fun _ _ => ⟨rfl, by decide⟩
  split
  · exact fun _ _ => ⟨rfl, by decide⟩
  · intro h
    unfold name at h
    rw [if_pos hns] at h
    simp at h
end T

/-- What one answers. -/
def oneV (L : List Int) (k : Nat) (x : T.P3) : Value := .tuple #[.agg #[.int .i64 x.1, .string (K.str (ttext x.1 ((L.drop k).take x.2.1))), .complex .f64 (Fl.fl (Pl.pos (L.take k)).1) (Fl.fl (Pl.pos (L.take k)).2)], .int .i64 ((k + x.2.1 : Nat) : Int), .int .i64 0]

set_option maxHeartbeats 4000000 in
theorem one_sign (A : Option Addr) (c : Nat) (L : List Int) (k : Nat) (w : World) (hr : RdB w w.heap.size A L) (hl : K.Bytes L) (hc : L.length ≤ c) (hn : L.length ≤ 2000) (hk : k < L.length) (he : (T.piece (L.drop k)).2.2 = 0) (hx : (T.piece (L.drop k)).1 ≠ 0)
    (h1 : T.head (L.getD k 0) = false) (h2 : ¬ L.getD k 0 = 39) (h3 : ¬ L.getD k 0 = 37) :
    Calls Tryd.prog 50 #[.slice A L.length c, .int .i64 k] w fun e w' => e = .returned (oneV L k (T.piece (L.drop k))) ∧ Below w.heap.size w w' := by
  have hz : (L.drop k).getD 0 0 = L.getD k 0 := by rw [Go.Proofs.YtkfelkpilaipnaaDoor.L.cons_drop L k hk]; rfl
  obtain ⟨g, o, rfl, hgl, hcl⟩ := hr (by omega)
  have hcell := hcl k hk
  have hps := T.piece_sign (L.drop k) (by rw [hz]; exact h1) (by rw [hz]; exact h2) (by rw [hz]; exact h3) he hx
  rw [hz] at hps
  obtain ⟨hpc, hkn⟩ := hps
  have hp37 : T.pre (L.drop k) [37, 37] = false := by
    rcases hh : T.pre (L.drop k) [37, 37] with _ | _
    · rfl
    · exact absurd ((T.pre_two _ _ _ (hl.drop k) (by intro x hx; simp at hx; omega) hh).1) (by rw [hz]; exact h3)
  have HAT := hide (fun (w1 : World) (h : Below w.heap.size w w1) => rat_in (some ⟨g, o, none⟩) c w.heap.size L k w1 (hr.below h (Nat.le_refl _)) hn (by omega))
  have H1 := hide (fun (w1 : World) (h : Below w.heap.size w w1) => rhas_any (some ⟨g, o, none⟩) c w.heap.size L [37, 37] k w1 (hr.below h (Nat.le_refl _)) hl hc (by omega) (by omega) (by decide))
  rw [hp37, show K.str [37, 37] = ⟨#[37, 37]⟩ from rfl] at H1
  have HF := hide (first_any (L.getD k 0))
  rw [h1] at HF
  have HM := hide (rmark_any (L.getD k 0))
  have HB0 := hide (fun o => ((Below.refl w.heap.size w).alloc (Nat.le_refl _) o))
  have SC := fun a w m X Y => show (store a (.complex .f64 X Y) m).run Tryd.prog w = stored Tryd.prog w a (.complex .f64 X Y) m from run_store _ w a _ m rfl
  have q39 : (L.getD k 0 == 39) = false := by simpa using h2
  have q37 : (L.getD k 0 == 37) = false := by simpa using h3
  rw [hpc]
  unfold oneV
  have ht : ttext (if L.getD k 0 = 58 then 10 else if L.getD k 0 = 124 then 11 else if L.getD k 0 = 59 then 12 else 0) ((L.drop k).take 1) = [] := by
    unfold ttext
    rw [if_neg]
    split
    · omega
    split
    · omega
    split <;> omega
  simp only
  rw [ht, show K.str [] = ⟨#[]⟩ from rfl]
  have qk : ((if L.getD k 0 = 58 then (10 : Int) else if L.getD k 0 = 124 then 11 else if L.getD k 0 = 59 then 12 else 0) == 0) = false := by simpa using hkn
  clear ht hpc hkn hp37 hcl hr hz h1 h2 h3 he hx
  generalize (if L.getD k 0 = 58 then (10 : Int) else if L.getD k 0 = 124 then 11 else if L.getD k 0 = 59 then 12 else 0) = xk at *
  generalize L.getD k 0 = z at *
  generalize Fl.fl (Pl.pos (L.take k)).1 = X at *
  generalize Fl.fl (Pl.pos (L.take k)).2 = Y at *
  go_enter Tryd.func50, Tryd.ntmps50
  go_wp2_with fail
  refine (HAT.out _ (HB0.out _)).mono ?_; rintro _ w' ⟨rfl, rfl⟩
  go_wp2_with fail
  refine (HF.out _).mono ?_; rintro _ w' ⟨rfl, rfl⟩
  go_wp2_with fail
  refine (H1.out _ ((HB0.out _).alloc (by simp) _)).mono ?_; rintro _ w' ⟨rfl, rfl⟩
  go_wp2_with fail
  refine (HM.out _).mono ?_; rintro _ w' ⟨rfl, rfl⟩
  go_wp2
  refine bodyPost_ret (v := .tuple #[.agg #[.int .i64 xk, .string ⟨#[]⟩, .complex .f64 X Y], .int .i64 ((k : Int) + 1), .int .i64 0]) (by simp [results, Tryd.results50, go_sem]) rfl ⟨by rw [Int.natCast_add]; rfl, ?_⟩
  exact (HB0.out _).alloc (by simp) _

set_option maxHeartbeats 4000000 in
theorem one_mark (A : Option Addr) (c : Nat) (L : List Int) (k : Nat) (w : World) (hr : RdB w w.heap.size A L) (hl : K.Bytes L) (hc : L.length ≤ c) (hn : L.length ≤ 2000) (hk : k < L.length) (hp : T.pre (L.drop k) [37, 37] = true) :
    Calls Tryd.prog 50 #[.slice A L.length c, .int .i64 k] w fun e w' => e = .returned (oneV L k (T.piece (L.drop k))) ∧ Below w.heap.size w w' := by
  have hz : (L.drop k).getD 0 0 = L.getD k 0 := by rw [Go.Proofs.YtkfelkpilaipnaaDoor.L.cons_drop L k hk]; rfl
  have h37 := (T.pre_two _ _ _ (hl.drop k) (by intro x hx; simp at hx; omega) hp).1
  have hpc : T.piece (L.drop k) = (9, 2, 0) := by rw [T.piece_37 _ h37]; unfold T.percent; rw [if_pos hp]
  rw [hz] at h37
  obtain ⟨g, o, rfl, hgl, hcl⟩ := hr (by omega)
  have hcell := hcl k hk
  rw [h37] at hcell
  have HAT := hide (fun (w1 : World) (h : Below w.heap.size w w1) => rat_in (some ⟨g, o, none⟩) c w.heap.size L k w1 (hr.below h (Nat.le_refl _)) hn (by omega))
  have H1 := hide (fun (w1 : World) (h : Below w.heap.size w w1) => rhas_any (some ⟨g, o, none⟩) c w.heap.size L [37, 37] k w1 (hr.below h (Nat.le_refl _)) hl hc (by omega) (by omega) (by decide))
  rw [hp, show K.str [37, 37] = ⟨#[37, 37]⟩ from rfl] at H1
  have HF := hide (first_any 37)
  rw [show T.head 37 = false from rfl] at HF
  have HB0 := hide (fun o => ((Below.refl w.heap.size w).alloc (Nat.le_refl _) o))
  have SC := fun a w m X Y => show (store a (.complex .f64 X Y) m).run Tryd.prog w = stored Tryd.prog w a (.complex .f64 X Y) m from run_store _ w a _ m rfl
  rw [hpc]
  unfold oneV
  simp only
  rw [show ttext 9 ((L.drop k).take 2) = [] from rfl, show K.str [] = ⟨#[]⟩ from rfl]
  clear hpc hp hcl hr hz h37
  generalize Fl.fl (Pl.pos (L.take k)).1 = X at *
  generalize Fl.fl (Pl.pos (L.take k)).2 = Y at *
  go_enter Tryd.func50, Tryd.ntmps50
  go_wp2_with fail
  refine (HAT.out _ (HB0.out _)).mono ?_; rintro _ w' ⟨rfl, rfl⟩
  go_wp2_with fail
  refine (HF.out _).mono ?_; rintro _ w' ⟨rfl, rfl⟩
  go_wp2_with fail
  refine (H1.out _ ((HB0.out _).alloc (by simp) _)).mono ?_; rintro _ w' ⟨rfl, rfl⟩
  go_wp2
  refine bodyPost_ret (v := .tuple #[.agg #[.int .i64 9, .string ⟨#[]⟩, .complex .f64 X Y], .int .i64 ((k : Int) + 2), .int .i64 0]) (by simp [results, Tryd.results50, go_sem]) rfl ⟨by rw [Int.natCast_add]; rfl, ?_⟩
  exact (HB0.out _).alloc (by simp) _

set_option maxHeartbeats 4000000 in
theorem one_word (A : Option Addr) (c : Nat) (L : List Int) (k : Nat) (w : World) (hr : RdB w w.heap.size A L) (hl : K.Bytes L) (hc : L.length ≤ c) (hn : L.length ≤ 2000) (hk : k < L.length) (he : (T.piece (L.drop k)).2.2 = 0) (hx : (T.piece (L.drop k)).1 ≠ 0) (h37 : L.getD k 0 = 37) (hp : T.pre (L.drop k) [37, 37] = false) :
    Calls Tryd.prog 50 #[.slice A L.length c, .int .i64 k] w fun e w' => e = .returned (oneV L k (T.piece (L.drop k))) ∧ Below w.heap.size w w' := by
  have hz : (L.drop k).getD 0 0 = L.getD k 0 := by rw [Go.Proofs.YtkfelkpilaipnaaDoor.L.cons_drop L k hk]; rfl
  have hps : T.psize (L.drop k) = 1 + T.run T.small (L.drop (k + 1)) := by unfold T.psize; rw [List.drop_drop]
  have hword : ((L.drop k).take (T.psize (L.drop k))).drop 1 = (L.drop (k + 1)).take (T.run T.small (L.drop (k + 1))) := by
    rw [hps, List.drop_take, List.drop_drop]
    congr 1
    omega
  have hpc : T.piece (L.drop k) = (T.wkind ((L.drop (k + 1)).take (T.run T.small (L.drop (k + 1)))), 1 + T.run T.small (L.drop (k + 1)), 0) ∧ T.wkind ((L.drop (k + 1)).take (T.run T.small (L.drop (k + 1)))) ≠ 0 := by
    rw [T.piece_37 _ (hz.trans h37)] at he hx ⊢
    unfold T.percent at he hx ⊢
    rw [if_neg (by rw [hp]; simp)] at he hx ⊢
    by_cases h3 : T.pre (L.drop k) [37, 123] = true
    · rw [if_pos h3] at hx; exact absurd (T.skip_kind _ _ _) hx
    · rw [if_neg h3] at he hx ⊢
      rw [hword, hps] at he ⊢
      by_cases h4 : T.wkind ((L.drop (k + 1)).take (T.run T.small (L.drop (k + 1)))) = 0
      · exfalso; simp [h4] at he
      · exact ⟨by simp [h4], h4⟩
  obtain ⟨hpc, hkn⟩ := hpc
  obtain ⟨g, o, rfl, hgl, hcl⟩ := hr (by omega)
  have hcell := hcl k hk
  rw [h37] at hcell
  have HC := hide hcl
  have hrl := T.run_le T.small (L.drop (k + 1))
  rw [List.length_drop] at hrl
  have HAT := hide (fun (w1 : World) (h : Below w.heap.size w w1) => rat_in (some ⟨g, o, none⟩) c w.heap.size L k w1 (hr.below h (Nat.le_refl _)) hn (by omega))
  have H1 := hide (fun (w1 : World) (h : Below w.heap.size w w1) => rhas_any (some ⟨g, o, none⟩) c w.heap.size L [37, 37] k w1 (hr.below h (Nat.le_refl _)) hl hc (by omega) (by omega) (by decide))
  rw [hp, show K.str [37, 37] = ⟨#[37, 37]⟩ from rfl] at H1
  have HF := hide (first_any 37)
  rw [show T.head 37 = false from rfl] at HF
  have HCV := hide (fun (o1 o2 : Obj) => str_conv ((((hr.alloc (Nat.le_refl _) o1).alloc (by simp) o2).dropA hc (k + 1)).take (T.run T.small (L.drop (k + 1)))) ((hl.drop (k + 1)).take _) (c - (k + 1)))
  have HK := hide (fun w => rpercent_any ((L.drop (k + 1)).take (T.run T.small (L.drop (k + 1)))) ((hl.drop _).take _) w)
  have HS := hide (fun w => slice_mid8 w (some ⟨g, o, none⟩) c L.length (k + 1) (k + 1 + T.run T.small (L.drop (k + 1))) (by omega) (by omega))
  rw [show k + 1 + T.run T.small (L.drop (k + 1)) - (k + 1) = T.run T.small (L.drop (k + 1)) by omega] at HS
  have hlt2 : ((L.drop (k + 1)).take (T.run T.small (L.drop (k + 1)))).length = T.run T.small (L.drop (k + 1)) := by rw [List.length_take, List.length_drop]; omega
  rw [hlt2] at HCV
  have HB0 := hide (fun o => ((Below.refl w.heap.size w).alloc (Nat.le_refl _) o))
  have SC := fun a w m X Y => show (store a (.complex .f64 X Y) m).run Tryd.prog w = stored Tryd.prog w a (.complex .f64 X Y) m from run_store _ w a _ m rfl
  rw [hpc]
  unfold oneV
  have hwb := T.wkind_bd ((L.drop (k + 1)).take (T.run T.small (L.drop (k + 1))))
  have ht : ttext (T.wkind ((L.drop (k + 1)).take (T.run T.small (L.drop (k + 1))))) ((L.drop k).take (1 + T.run T.small (L.drop (k + 1)))) = [] := by
    have := hwb.2.2 hkn
    unfold ttext; rw [if_neg (by omega)]
  simp only
  rw [ht, show K.str [] = ⟨#[]⟩ from rfl]
  have qk : (T.wkind ((L.drop (k + 1)).take (T.run T.small (L.drop (k + 1)))) == 0) = false := by simpa using hkn
  have HRN := hide (T.run_next T.small L)
  have HRE := hide (T.run_end T.small L)
  clear hpc hp hcl hr hz h37 ht hkn hwb hword hps hlt2 he hx hl
  generalize T.wkind ((L.drop (k + 1)).take (T.run T.small (L.drop (k + 1)))) = xk at *
  generalize K.str ((L.drop (k + 1)).take (T.run T.small (L.drop (k + 1)))) = st at *
  generalize hrun : T.run T.small (L.drop (k + 1)) = rn at *
  have HRUN := hide hrun
  clear hrun
  generalize Fl.fl (Pl.pos (L.take k)).1 = X at *
  generalize Fl.fl (Pl.pos (L.take k)).2 = Y at *
  go_enter Tryd.func50, Tryd.ntmps50
  go_wp2_with fail
  refine (HAT.out _ (HB0.out _)).mono ?_; rintro _ w' ⟨rfl, rfl⟩
  go_wp2_with fail
  refine (HF.out _).mono ?_; rintro _ w' ⟨rfl, rfl⟩
  go_wp2_with fail
  refine (H1.out _ ((HB0.out _).alloc (by simp) _)).mono ?_; rintro _ w' ⟨rfl, rfl⟩
  go_wp2_with fail
  go_loop [9] (fun vi => ∃ (j : Nat), j ≤ L.length ∧ k + 1 ≤ j ∧ vi = .int .i64 j ∧ j + T.run T.small (L.drop j) = k + 1 + rn) (fun vi => L.length - (intOf vi).toNat)
  case atStart => exact ⟨k + 1, by omega, by omega, by go_num, by rw [HRUN.out]⟩
  case round =>
    obtain ⟨j, hj, hkj, rfl, hrel⟩ := hrel
    have HV := hide hrel
    clear hrel
    by_cases hlt : j < L.length
    · have hcj := HC.out j hlt
      have hrn := HRN.out j hlt
      by_cases hs : 97 ≤ L.getD j 0 ∧ L.getD j 0 ≤ 122
      · have hsm : T.small (L.getD j 0) = true := by unfold T.small; simp; exact hs
        rw [hsm, if_pos rfl] at hrn
        have HN := hide hrn
        obtain ⟨hs1, hs2⟩ := hs
        clear hsm hrn hcell
        generalize L.getD j 0 = z at *
        go_wp2
        go_round
        case rel => exact ⟨j + 1, by omega, by omega, by go_num, by have := HV.out; have := HN.out; omega⟩
        case measure => simp [intOf]; omega
      · have hsm : T.small (L.getD j 0) = false := by
          rcases hq : T.small (L.getD j 0) with _ | _
          · rfl
          · exfalso; apply hs; unfold T.small at hq; simp at hq; exact hq
        rw [hsm] at hrn
        have hje : k + 1 + rn = j := by have := HV.out; rw [hrn] at this; simp at this; omega
        have S1 : ∀ w, (Instr.sliceAt 36 (.slice (some ⟨g, o, none⟩) L.length c) (some (.int .i64 ((k : Int) + 1))) (some (.int .i64 j)) none).run Tryd.prog w = .ok (.slice (dropA (some ⟨g, o, none⟩) c (k + 1)) rn (c - (k + 1))) w := fun w => by
          have h := HS.out w
          rw [hje, show ((k + 1 : Nat) : Int) = (k : Int) + 1 by omega] at h
          exact h
        have C1 := HCV.out tok0 (.cells #[.int .i64 0, .string ⟨#[]⟩, .complex .f64 X Y] 105)
        unfold tok0 at C1
        have HJ := hide hje
        clear hsm hrn hje hcell HS HCV
        generalize dropA (some ⟨g, o, none⟩) c (k + 1) = D at *
        generalize c - (k + 1) = c2 at *
        generalize L.getD j 0 = z at *
        by_cases h97 : 97 ≤ z
        · have h122 : ¬ z ≤ 122 := fun h => hs ⟨h97, h⟩
          clear hs
          go_wp2_with fail
          refine (HK.out _).mono ?_; rintro _ w' ⟨rfl, rfl⟩
          go_wp2
          refine bodyPost_ret (v := .tuple #[.agg #[.int .i64 xk, .string ⟨#[]⟩, .complex .f64 X Y], .int .i64 j, .int .i64 0]) (by simp [results, Tryd.results50, go_sem]) rfl ⟨by rw [← HJ.out, show k + (1 + rn) = k + 1 + rn by omega], ?_⟩
          exact (HB0.out _).alloc (by simp) _
        · clear hs
          go_wp2_with fail
          refine (HK.out _).mono ?_; rintro _ w' ⟨rfl, rfl⟩
          go_wp2
          refine bodyPost_ret (v := .tuple #[.agg #[.int .i64 xk, .string ⟨#[]⟩, .complex .f64 X Y], .int .i64 j, .int .i64 0]) (by simp [results, Tryd.results50, go_sem]) rfl ⟨by rw [← HJ.out, show k + (1 + rn) = k + 1 + rn by omega], ?_⟩
          exact (HB0.out _).alloc (by simp) _
    · have hre := HRE.out j (by omega)
      have hje : k + 1 + rn = j := by have := HV.out; rw [hre] at this; omega
      have S1 : ∀ w, (Instr.sliceAt 36 (.slice (some ⟨g, o, none⟩) L.length c) (some (.int .i64 ((k : Int) + 1))) (some (.int .i64 j)) none).run Tryd.prog w = .ok (.slice (dropA (some ⟨g, o, none⟩) c (k + 1)) rn (c - (k + 1))) w := fun w => by
        have h := HS.out w
        rw [hje, show ((k + 1 : Nat) : Int) = (k : Int) + 1 by omega] at h
        exact h
      have C1 := HCV.out tok0 (.cells #[.int .i64 0, .string ⟨#[]⟩, .complex .f64 X Y] 105)
      unfold tok0 at C1
      have HJ := hide hje
      clear hre hje hcell HS HCV
      generalize dropA (some ⟨g, o, none⟩) c (k + 1) = D at *
      generalize c - (k + 1) = c2 at *
      go_wp2_with fail
      refine (HK.out _).mono ?_; rintro _ w' ⟨rfl, rfl⟩
      go_wp2
      refine bodyPost_ret (v := .tuple #[.agg #[.int .i64 xk, .string ⟨#[]⟩, .complex .f64 X Y], .int .i64 j, .int .i64 0]) (by simp [results, Tryd.results50, go_sem]) rfl ⟨by rw [← HJ.out, show k + (1 + rn) = k + 1 + rn by omega], ?_⟩
      exact (HB0.out _).alloc (by simp) _

set_option maxHeartbeats 4000000 in
theorem one_name (A : Option Addr) (c : Nat) (L : List Int) (k : Nat) (w : World) (hr : RdB w w.heap.size A L) (hl : K.Bytes L) (hc : L.length ≤ c) (hn : L.length ≤ 2000) (hk : k < L.length) (he : (T.piece (L.drop k)).2.2 = 0) (hh : T.head (L.getD k 0) = true) :
    Calls Tryd.prog 50 #[.slice A L.length c, .int .i64 k] w fun e w' => e = .returned (oneV L k (T.piece (L.drop k))) ∧ Below w.heap.size w w' := by
  have hz : (L.drop k).getD 0 0 = L.getD k 0 := by rw [Go.Proofs.YtkfelkpilaipnaaDoor.L.cons_drop L k hk]; rfl
  have hns : T.nsize (L.drop k) = 1 + T.run T.inName (L.drop (k + 1)) := by
    rw [Go.Proofs.YtkfelkpilaipnaaDoor.L.cons_drop L k hk, T.nsize_cons, if_pos hh]; omega
  have hpc : T.piece (L.drop k) = (1, 1 + T.run T.inName (L.drop (k + 1)), 0) ∧ 1 + T.run T.inName (L.drop (k + 1)) ≤ 20 := by
    rw [T.piece_name _ (by rw [hz]; exact hh)] at he ⊢
    unfold T.name at he ⊢
    rw [hns] at he ⊢
    rw [if_neg (by omega)] at he ⊢
    by_cases h4 : 20 < 1 + T.run T.inName (L.drop (k + 1))
    · exfalso; simp [h4] at he
    · exact ⟨by simp [h4], by omega⟩
  obtain ⟨hpc, h20⟩ := hpc
  obtain ⟨g, o, rfl, hgl, hcl⟩ := hr (by omega)
  have hcell := hcl k hk
  have HC := hide hcl
  have hrl := T.run_le T.inName (L.drop (k + 1))
  rw [List.length_drop] at hrl
  have HAT := hide (fun (w1 : World) (h : Below w.heap.size w w1) => rat_in (some ⟨g, o, none⟩) c w.heap.size L k w1 (hr.below h (Nat.le_refl _)) hn (by omega))
  have HF := hide (first_any (L.getD k 0))
  rw [hh] at HF
  have HLT := hide (fun j => later_any (L.getD j 0))
  have HCV := hide (fun (w1 : World) (h : Below w.heap.size w w1) => str_conv (((hr.below h (Nat.le_refl _)).dropA hc k).take (1 + T.run T.inName (L.drop (k + 1)))) ((hl.drop k).take _) (c - k))
  have HS := hide (fun w => slice_mid8 w (some ⟨g, o, none⟩) c L.length k (k + (1 + T.run T.inName (L.drop (k + 1)))) (by omega) (by omega))
  rw [show k + (1 + T.run T.inName (L.drop (k + 1))) - k = 1 + T.run T.inName (L.drop (k + 1)) by omega] at HS
  have hlt2 : ((L.drop k).take (1 + T.run T.inName (L.drop (k + 1)))).length = 1 + T.run T.inName (L.drop (k + 1)) := by rw [List.length_take, List.length_drop]; omega
  rw [hlt2] at HCV
  have HB0 := hide (fun o => ((Below.refl w.heap.size w).alloc (Nat.le_refl _) o))
  have SC := fun a w m X Y => show (store a (.complex .f64 X Y) m).run Tryd.prog w = stored Tryd.prog w a (.complex .f64 X Y) m from run_store _ w a _ m rfl
  rw [hpc]
  unfold oneV
  have ht : ttext 1 ((L.drop k).take (1 + T.run T.inName (L.drop (k + 1)))) = (L.drop k).take (1 + T.run T.inName (L.drop (k + 1))) := by unfold ttext; rw [if_pos (.inl rfl)]
  simp only
  rw [ht]
  have HRN := hide (T.run_next T.inName L)
  have HRE := hide (T.run_end T.inName L)
  clear hpc hcl hr hz ht hns hlt2 he hl hh
  generalize K.str ((L.drop k).take (1 + T.run T.inName (L.drop (k + 1)))) = st at *
  generalize hrun : T.run T.inName (L.drop (k + 1)) = rn at *
  have HRUN := hide hrun
  clear hrun
  generalize Fl.fl (Pl.pos (L.take k)).1 = X at *
  generalize Fl.fl (Pl.pos (L.take k)).2 = Y at *
  generalize hzz : L.getD k 0 = z at *
  clear hzz
  go_enter Tryd.func50, Tryd.ntmps50
  go_wp2_with fail
  refine (HAT.out _ (HB0.out _)).mono ?_; rintro _ w' ⟨rfl, rfl⟩
  go_wp2_with fail
  refine (HF.out _).mono ?_; rintro _ w' ⟨rfl, rfl⟩
  go_wp2_with fail
  go_loop [9] (fun vi => ∃ (j : Nat), j ≤ L.length ∧ k + 1 ≤ j ∧ vi = .int .i64 j ∧ j + T.run T.inName (L.drop j) = k + 1 + rn) (fun vi => L.length - (intOf vi).toNat)
  case atStart => exact ⟨k + 1, by omega, by omega, by go_num, by rw [HRUN.out]⟩
  case round =>
    obtain ⟨j, hj, hkj, rfl, hrel⟩ := hrel
    have HV := hide hrel
    clear hrel hcell
    by_cases hlt : j < L.length
    · have hcj := HC.out j hlt
      have hrn := HRN.out j hlt
      have HLj := hide (HLT.out j)
      rcases hsm : T.inName (L.getD j 0) with _ | _
      · rw [hsm] at hrn HLj
        have hje : k + (1 + rn) = j := by have := HV.out; rw [hrn] at this; simp at this; omega
        have HJ := hide hje
        clear hsm hrn
        generalize L.getD j 0 = z2 at *
        go_wp2_with fail
        refine (HLj.out _).mono ?_; rintro _ w' ⟨rfl, rfl⟩
        have hgt : ¬ (j : Int) - (k : Int) > 20 := by have := HJ.out; omega
        go_upto_region 10 with fail
        have hb5 : Below w.heap.size w ((((w.alloc tok0).alloc (.cells #[.int .i64 0, .string ⟨#[]⟩, .complex .f64 X Y] 105))).drew) := below_drewN ((HB0.out tok0).alloc (by simp) _) 1
        unfold tok0 at hb5
        have S1 : ∀ w, (Instr.sliceAt 36 (.slice (some ⟨g, o, none⟩) L.length c) (some (.int .i64 k)) (some (.int .i64 j)) none).run Tryd.prog w = .ok (.slice (dropA (some ⟨g, o, none⟩) c k) (1 + rn) (c - k)) w := fun w => by
          have h := HS.out w
          rw [HJ.out] at h
          exact h
        have CC := fun y : Calm.On w.heap.size w => HCV.out y.1 y.2
        refine Calm.region_tree (fun x => ∃ y : Calm.On w.heap.size w, x = y.1) (.one [0, 1, 2, 3, 4, 5] 6 (.one [7] 8 (.fin []))) (by kernel_rfl) (by kernel_rfl) (fun _ _ d _ _ h => by cases d <;> exact h) ⟨⟨_, hb5⟩, rfl⟩ ?_
        simp only [Calm.wpT, Calm.wpSt, Calm.pickOps, List.getElem?_toArray, List.getElem?_cons_zero, List.getElem?_cons_succ]
        repeat (go_big_quiet_step (fail))
        refine wpQuiet_nil ?_
        clear CC HCV HS S1 hb5
        have HBE := hide (fun o1 o2 => below_drewN ((HB0.out o1).alloc (by simp) o2) 1)
        intro KK hKK
        try rw [if_pos (by rfl)]
        go_wp2_with fail
        refine hKK _ _ ⟨⟨_, HBE.out _ _⟩, rfl⟩ (fun x => ∃ y : Calm.On w.heap.size w, x = y.1) (fun _ h => h) ⟨⟨_, HBE.out _ _⟩, rfl⟩ ?_
        repeat (go_big_quiet_step (fail))
        refine wpQuiet_nil ?_
        intro KK hKK
        try rw [if_pos (by rfl)]
        go_wp2_with fail
        refine hKK _ _ ⟨⟨_, HBE.out _ _⟩, rfl⟩ (fun x => ∃ y : Calm.On w.heap.size w, x = y.1) (fun _ h => h) ⟨⟨_, HBE.out _ _⟩, rfl⟩ ?_
        refine wpQuiet_nil ?_
        go_wp2
        exact bodyPost_ret (v := .tuple #[.agg #[.int .i64 1, .string st, .complex .f64 X Y], .int .i64 j, .int .i64 0]) (by simp [results, Tryd.results50, go_sem]) rfl ⟨by rw [HJ.out], HBE.out _ _⟩
      · rw [hsm, if_pos rfl] at hrn
        rw [hsm] at HLj
        have HN := hide hrn
        clear hsm hrn
        generalize L.getD j 0 = z2 at *
        go_wp2_with fail
        refine (HLj.out _).mono ?_; rintro _ w' ⟨rfl, rfl⟩
        go_wp2
        go_round
        case rel => exact ⟨j + 1, by omega, by omega, by go_num, by have := HV.out; have := HN.out; omega⟩
        case measure => simp [intOf]; omega
    · have hre := HRE.out j (by omega)
      have hje : k + (1 + rn) = j := by have := HV.out; rw [hre] at this; omega
      have HJ := hide hje
      have hgt : ¬ (j : Int) - (k : Int) > 20 := by omega
      clear hre hje
      go_upto_region 10 with fail
      have hb5 : Below w.heap.size w ((((w.alloc tok0).alloc (.cells #[.int .i64 0, .string ⟨#[]⟩, .complex .f64 X Y] 105))).drew) := below_drewN ((HB0.out tok0).alloc (by simp) _) 1
      unfold tok0 at hb5
      have S1 : ∀ w, (Instr.sliceAt 36 (.slice (some ⟨g, o, none⟩) L.length c) (some (.int .i64 k)) (some (.int .i64 j)) none).run Tryd.prog w = .ok (.slice (dropA (some ⟨g, o, none⟩) c k) (1 + rn) (c - k)) w := fun w => by
        have h := HS.out w
        rw [HJ.out] at h
        exact h
      have CC := fun y : Calm.On w.heap.size w => HCV.out y.1 y.2
      refine Calm.region_tree (fun x => ∃ y : Calm.On w.heap.size w, x = y.1) (.one [0, 1, 2, 3, 4, 5] 6 (.one [7] 8 (.fin []))) (by kernel_rfl) (by kernel_rfl) (fun _ _ d _ _ h => by cases d <;> exact h) ⟨⟨_, hb5⟩, rfl⟩ ?_
      simp only [Calm.wpT, Calm.wpSt, Calm.pickOps, List.getElem?_toArray, List.getElem?_cons_zero, List.getElem?_cons_succ]
      repeat (go_big_quiet_step (fail))
      refine wpQuiet_nil ?_
      clear CC HCV HS S1 hb5
      have HBE := hide (fun o1 o2 => below_drewN ((HB0.out o1).alloc (by simp) o2) 1)
      intro KK hKK
      try rw [if_pos (by rfl)]
      go_wp2_with fail
      refine hKK _ _ ⟨⟨_, HBE.out _ _⟩, rfl⟩ (fun x => ∃ y : Calm.On w.heap.size w, x = y.1) (fun _ h => h) ⟨⟨_, HBE.out _ _⟩, rfl⟩ ?_
      repeat (go_big_quiet_step (fail))
      refine wpQuiet_nil ?_
      intro KK hKK
      try rw [if_pos (by rfl)]
      go_wp2_with fail
      refine hKK _ _ ⟨⟨_, HBE.out _ _⟩, rfl⟩ (fun x => ∃ y : Calm.On w.heap.size w, x = y.1) (fun _ h => h) ⟨⟨_, HBE.out _ _⟩, rfl⟩ ?_
      refine wpQuiet_nil ?_
      go_wp2
      exact bodyPost_ret (v := .tuple #[.agg #[.int .i64 1, .string st, .complex .f64 X Y], .int .i64 j, .int .i64 0]) (by simp [results, Tryd.results50, go_sem]) rfl ⟨by rw [HJ.out], HBE.out _ _⟩

set_option maxHeartbeats 4000000 in
theorem one_lit (A : Option Addr) (c : Nat) (L : List Int) (k : Nat) (w : World) (hr : RdB w w.heap.size A L) (hl : K.Bytes L) (hc : L.length ≤ c) (hn : L.length ≤ 2000) (hk : k < L.length) (he : (T.piece (L.drop k)).2.2 = 0) (h39 : L.getD k 0 = 39) :
    Calls Tryd.prog 50 #[.slice A L.length c, .int .i64 k] w fun e w' => e = .returned (oneV L k (T.piece (L.drop k))) ∧ Below w.heap.size w w' := by
  have hz : (L.drop k).getD 0 0 = L.getD k 0 := by rw [Go.Proofs.YtkfelkpilaipnaaDoor.L.cons_drop L k hk]; rfl
  have hpc : (T.isLit ((L.drop k).take 3) = true ∧ T.piece (L.drop k) = (2, 3, 0)) ∨ (T.isLit ((L.drop k).take 3) = false ∧ T.isLit ((L.drop k).take 4) = true ∧ T.piece (L.drop k) = (2, 4, 0)) := by
    rw [T.piece_39 _ (hz.trans h39)] at he ⊢
    unfold T.literal at he ⊢
    rcases h3 : T.isLit ((L.drop k).take 3) with _ | _
    · rcases h4 : T.isLit ((L.drop k).take 4) with _ | _
      · exfalso
        rw [h3, h4] at he
        simp only [Bool.false_eq_true, if_false] at he
        split at he <;> simp at he
      · right; refine ⟨rfl, rfl, ?_⟩; simp
    · left; refine ⟨rfl, ?_⟩; simp
  obtain ⟨g, o, rfl, hgl, hcl⟩ := hr (by omega)
  have hcell := hcl k hk
  rw [h39] at hcell
  have HAT := hide (fun (w1 : World) (h : Below w.heap.size w w1) => rat_in (some ⟨g, o, none⟩) c w.heap.size L k w1 (hr.below h (Nat.le_refl _)) hn (by omega))
  have HF := hide (first_any 39)
  rw [show T.head 39 = false from rfl] at HF
  have HLT := hide (fun n => rlit_any ((L.drop k).take n) ((hl.drop k).take n))
  have HCV := hide (fun (n : Nat) (hkn : k + n ≤ L.length) (w1 : World) (h : Below w.heap.size w w1) => (by
    have h1 := str_conv (((hr.below h (Nat.le_refl _)).dropA hc k).take n) ((hl.drop k).take _) (c - k)
    rw [show ((L.drop k).take n).length = n by rw [List.length_take, List.length_drop]; omega] at h1
    exact h1 : (convert 36 9 (.slice (dropA (some ⟨g, o, none⟩) c k) n (c - k))).run Tryd.prog w1 = .ok (.string (K.str ((L.drop k).take n))) w1))
  have HS := hide (fun (n : Nat) (hkn : k + n ≤ L.length) (w1 : World) => (by
    have h1 := slice_mid8 w1 (some ⟨g, o, none⟩) c L.length k (k + n) (by omega) (by omega)
    rw [show k + n - k = n by omega, Int.natCast_add] at h1
    exact h1 : (Instr.sliceAt 36 (.slice (some ⟨g, o, none⟩) L.length c) (some (.int .i64 k)) (some (.int .i64 ((k : Int) + (n : Int)))) none).run Tryd.prog w1 = .ok (.slice (dropA (some ⟨g, o, none⟩) c k) n (c - k)) w1))
  have HB0 := hide (fun o => ((Below.refl w.heap.size w).alloc (Nat.le_refl _) o))
  have SC := fun a w m X Y => show (store a (.complex .f64 X Y) m).run Tryd.prog w = stored Tryd.prog w a (.complex .f64 X Y) m from run_store _ w a _ m rfl
  have hov : ∀ n, oneV L k (2, n, 0) = .tuple #[.agg #[.int .i64 2, .string (K.str ((L.drop k).take n)), .complex .f64 (Fl.fl (Pl.pos (L.take k)).1) (Fl.fl (Pl.pos (L.take k)).2)], .int .i64 ((k : Int) + n), .int .i64 0] := fun n => by
    unfold oneV ttext
    simp
  have HPV : Hid ((T.isLit ((L.drop k).take 3) = true → oneV L k (T.piece (L.drop k)) = .tuple #[.agg #[.int .i64 2, .string (K.str ((L.drop k).take 3)), .complex .f64 (Fl.fl (Pl.pos (L.take k)).1) (Fl.fl (Pl.pos (L.take k)).2)], .int .i64 ((k : Int) + 3), .int .i64 0]) ∧ (T.isLit ((L.drop k).take 3) = false → T.isLit ((L.drop k).take 4) = true → oneV L k (T.piece (L.drop k)) = .tuple #[.agg #[.int .i64 2, .string (K.str ((L.drop k).take 4)), .complex .f64 (Fl.fl (Pl.pos (L.take k)).1) (Fl.fl (Pl.pos (L.take k)).2)], .int .i64 ((k : Int) + 4), .int .i64 0])) := hide (by
    refine ⟨fun h => ?_, fun h h' => ?_⟩
    · rcases hpc with ⟨_, e⟩ | ⟨e1, _, _⟩
      · rw [e]; exact hov 3
      · rw [h] at e1; cases e1
    · rcases hpc with ⟨e1, _⟩ | ⟨_, _, e⟩
      · rw [h] at e1; cases e1
      · rw [e]; exact hov 4)
  have HB4 : Hid (T.isLit ((L.drop k).take 3) = false → T.isLit ((L.drop k).take 4) = true) := hide (fun h => by
    rcases hpc with ⟨e1, _⟩ | ⟨_, e, _⟩
    · rw [h] at e1; cases e1
    · exact e)
  clear hpc hcl hr hz he hl h39 hov
  generalize oneV L k (T.piece (L.drop k)) = V at *
  generalize Fl.fl (Pl.pos (L.take k)).1 = X at *
  generalize Fl.fl (Pl.pos (L.take k)).2 = Y at *
  go_enter Tryd.func50, Tryd.ntmps50
  go_wp2_with fail
  refine (HAT.out _ (HB0.out _)).mono ?_; rintro _ w' ⟨rfl, rfl⟩
  go_wp2_with fail
  refine (HF.out _).mono ?_; rintro _ w' ⟨rfl, rfl⟩
  go_wp2_with fail
  go_loop [10] (fun vi => ∃ (n : Nat), (n = 3 ∨ (n = 4 ∧ T.isLit ((L.drop k).take 3) = false)) ∧ vi = .int .i64 n) (fun vi => 5 - (intOf vi).toNat)
  case atStart => exact ⟨3, .inl rfl, rfl⟩
  case round =>
    clear hcell
    obtain ⟨n, hnn, rfl⟩ := hrel
    rcases hnn with rfl | ⟨rfl, h3⟩
    · rcases h3 : T.isLit ((L.drop k).take 3) with _ | _
      · clear HPV
        have hlen4 : k + 3 ≤ L.length := by
          have h1 := T.isLit_len (HB4.out h3)
          rw [List.length_take, List.length_drop] at h1
          omega
        have C1 := HCV.out 3 hlen4 (((w.alloc tok0).alloc (.cells #[.int .i64 0, .string ⟨#[]⟩, .complex .f64 X Y] 105))) ((HB0.out tok0).alloc (by simp) _)
        unfold tok0 at C1
        have S1 : ∀ w, (Instr.sliceAt 36 (.slice (some ⟨g, o, none⟩) L.length c) (some (.int .i64 k)) (some (.int .i64 ((k : Int) + 3))) none).run Tryd.prog w = .ok (.slice (dropA (some ⟨g, o, none⟩) c k) 3 (c - k)) w := HS.out 3 hlen4
        have HLj := hide (HLT.out 3)
        rw [h3] at HLj
        have H3 := hide h3
        have hl3 : ¬ (k : Int) + 3 > (L.length : Int) := by omega
        clear h3
        generalize hst : K.str ((L.drop k).take 3) = st at *
        clear hst
        go_wp2_with fail
        refine (HLj.out _).mono ?_; rintro _ w' ⟨rfl, rfl⟩
        go_wp2
        go_round
        case rel => exact ⟨4, by simp, by go_num⟩
        case measure => simp [intOf]
      · have hA := h3
        clear h3 HB4
        have hlen : k + 3 ≤ L.length := by
          have h1 := T.isLit_len hA
          rw [List.length_take, List.length_drop] at h1
          omega
        have hV := HPV.out.1 hA
        have C1 := HCV.out 3 hlen (((w.alloc tok0).alloc (.cells #[.int .i64 0, .string ⟨#[]⟩, .complex .f64 X Y] 105))) ((HB0.out tok0).alloc (by simp) _)
        unfold tok0 at C1
        have S1 : ∀ w, (Instr.sliceAt 36 (.slice (some ⟨g, o, none⟩) L.length c) (some (.int .i64 k)) (some (.int .i64 ((k : Int) + 3))) none).run Tryd.prog w = .ok (.slice (dropA (some ⟨g, o, none⟩) c k) 3 (c - k)) w := HS.out 3 hlen
        have HLj := hide (HLT.out 3)
        rw [hA] at HLj
        have HV := hide hV
        have hl3 : ¬ (k : Int) + 3 > (L.length : Int) := by omega
        clear hA hV
        go_wp2_with fail
        refine (HLj.out _).mono ?_; rintro _ w' ⟨rfl, rfl⟩
        go_upto_region 17 with fail
        have hb5 : Below w.heap.size w ((((w.alloc tok0).alloc (.cells #[.int .i64 0, .string ⟨#[]⟩, .complex .f64 X Y] 105))).drew) := below_drewN ((HB0.out tok0).alloc (by simp) _) 1
        unfold tok0 at hb5
        have CC := fun y : Calm.On w.heap.size w => HCV.out 3 hlen y.1 y.2
        refine Calm.region_tree (fun x => ∃ y : Calm.On w.heap.size w, x = y.1) (.one [0, 1, 2, 3, 4, 5, 6, 7] 8 (.one [9] 10 (.fin []))) (by kernel_rfl) (by kernel_rfl) (fun _ _ d _ _ h => by cases d <;> exact h) ⟨⟨_, hb5⟩, rfl⟩ ?_
        simp only [Calm.wpT, Calm.wpSt, Calm.pickOps, List.getElem?_toArray, List.getElem?_cons_zero, List.getElem?_cons_succ]
        repeat (go_big_quiet_step (fail))
        refine wpQuiet_nil ?_
        clear CC HCV HS S1 hb5 C1
        have HBE := hide (fun o1 o2 => below_drewN ((HB0.out o1).alloc (by simp) o2) 1)
        intro KK hKK
        try rw [if_pos (by rfl)]
        go_wp2_with fail
        refine hKK _ _ ⟨⟨_, HBE.out _ _⟩, rfl⟩ (fun x => ∃ y : Calm.On w.heap.size w, x = y.1) (fun _ h => h) ⟨⟨_, HBE.out _ _⟩, rfl⟩ ?_
        repeat (go_big_quiet_step (fail))
        refine wpQuiet_nil ?_
        intro KK hKK
        try rw [if_pos (by rfl)]
        go_wp2_with fail
        refine hKK _ _ ⟨⟨_, HBE.out _ _⟩, rfl⟩ (fun x => ∃ y : Calm.On w.heap.size w, x = y.1) (fun _ h => h) ⟨⟨_, HBE.out _ _⟩, rfl⟩ ?_
        refine wpQuiet_nil ?_
        go_wp2
        exact bodyPost_ret (v := .tuple #[.agg #[.int .i64 2, .string (K.str ((L.drop k).take 3)), .complex .f64 X Y], .int .i64 ((k : Int) + 3), .int .i64 0]) (by simp [results, Tryd.results50, go_sem]) rfl ⟨by rw [HV.out], HBE.out _ _⟩
    · have hA := HB4.out h3
      clear HB4
      have hlen : k + 4 ≤ L.length := by
        have h1 := T.isLit_len hA
        rw [List.length_take, List.length_drop] at h1
        rcases h1 with h1 | h1
        · exfalso
          have e3 : (L.drop k).take 3 = L.drop k := List.take_of_length_le (by rw [List.length_drop]; omega)
          have e4 : (L.drop k).take 4 = L.drop k := List.take_of_length_le (by rw [List.length_drop]; omega)
          rw [e3] at h3
          rw [e4] at hA
          rw [h3] at hA; cases hA
        · omega
      have hV := HPV.out.2 h3 hA
      have C1 := HCV.out 4 hlen (((w.alloc tok0).alloc (.cells #[.int .i64 0, .string ⟨#[]⟩, .complex .f64 X Y] 105))) ((HB0.out tok0).alloc (by simp) _)
      unfold tok0 at C1
      have S1 : ∀ w, (Instr.sliceAt 36 (.slice (some ⟨g, o, none⟩) L.length c) (some (.int .i64 k)) (some (.int .i64 ((k : Int) + 4))) none).run Tryd.prog w = .ok (.slice (dropA (some ⟨g, o, none⟩) c k) 4 (c - k)) w := HS.out 4 hlen
      have HLj := hide (HLT.out 4)
      rw [hA] at HLj
      have HV := hide hV
      have hl3 : ¬ (k : Int) + 4 > (L.length : Int) := by omega
      clear hA hV h3
      go_wp2_with fail
      refine (HLj.out _).mono ?_; rintro _ w' ⟨rfl, rfl⟩
      go_upto_region 17 with fail
      have hb5 : Below w.heap.size w ((((w.alloc tok0).alloc (.cells #[.int .i64 0, .string ⟨#[]⟩, .complex .f64 X Y] 105))).drew) := below_drewN ((HB0.out tok0).alloc (by simp) _) 1
      unfold tok0 at hb5
      have CC := fun y : Calm.On w.heap.size w => HCV.out 4 hlen y.1 y.2
      refine Calm.region_tree (fun x => ∃ y : Calm.On w.heap.size w, x = y.1) (.one [0, 1, 2, 3, 4, 5, 6, 7] 8 (.one [9] 10 (.fin []))) (by kernel_rfl) (by kernel_rfl) (fun _ _ d _ _ h => by cases d <;> exact h) ⟨⟨_, hb5⟩, rfl⟩ ?_
      simp only [Calm.wpT, Calm.wpSt, Calm.pickOps, List.getElem?_toArray, List.getElem?_cons_zero, List.getElem?_cons_succ]
      repeat (go_big_quiet_step (fail))
      refine wpQuiet_nil ?_
      clear CC HCV HS S1 hb5 C1
      have HBE := hide (fun o1 o2 => below_drewN ((HB0.out o1).alloc (by simp) o2) 1)
      intro KK hKK
      try rw [if_pos (by rfl)]
      go_wp2_with fail
      refine hKK _ _ ⟨⟨_, HBE.out _ _⟩, rfl⟩ (fun x => ∃ y : Calm.On w.heap.size w, x = y.1) (fun _ h => h) ⟨⟨_, HBE.out _ _⟩, rfl⟩ ?_
      repeat (go_big_quiet_step (fail))
      refine wpQuiet_nil ?_
      intro KK hKK
      try rw [if_pos (by rfl)]
      go_wp2_with fail
      refine hKK _ _ ⟨⟨_, HBE.out _ _⟩, rfl⟩ (fun x => ∃ y : Calm.On w.heap.size w, x = y.1) (fun _ h => h) ⟨⟨_, HBE.out _ _⟩, rfl⟩ ?_
      refine wpQuiet_nil ?_
      go_wp2
      exact bodyPost_ret (v := .tuple #[.agg #[.int .i64 2, .string (K.str ((L.drop k).take 4)), .complex .f64 X Y], .int .i64 ((k : Int) + 4), .int .i64 0]) (by simp [results, Tryd.results50, go_sem]) rfl ⟨by rw [HV.out], HBE.out _ _⟩

theorem rone_any (A : Option Addr) (c : Nat) (L : List Int) (k : Nat) (w : World) (hr : RdB w w.heap.size A L) (hl : K.Bytes L) (hc : L.length ≤ c) (hn : L.length ≤ 2000) (hk : k < L.length) (he : (T.piece (L.drop k)).2.2 = 0) (hx : (T.piece (L.drop k)).1 ≠ 0) :
    Calls Tryd.prog 50 #[.slice A L.length c, .int .i64 k] w fun e w' => e = .returned (oneV L k (T.piece (L.drop k))) ∧ Below w.heap.size w w' := by
  rcases hh : T.head (L.getD k 0) with _ | _
  · by_cases h39 : L.getD k 0 = 39
    · exact one_lit A c L k w hr hl hc hn hk he h39
    · by_cases h37 : L.getD k 0 = 37
      · rcases hp : T.pre (L.drop k) [37, 37] with _ | _
        · exact one_word A c L k w hr hl hc hn hk he hx h37 hp
        · exact one_mark A c L k w hr hl hc hn hk hp
      · exact one_sign A c L k w hr hl hc hn hk he hx hh h39 h37
  · exact one_name A c L k w hr hl hc hn hk he hh
end Go.Proofs.YtkfelkpilaipnaaDoor

namespace Go.Proofs.YtkfelkpilaipnaaDoor
set_option maxRecDepth 100000
open Go.RowKit

set_option maxHeartbeats 4000000 in
theorem rtoks_any (A : Option Addr) (c : Nat) (L : List Int) (xs : List Tok) (w : World) (hr : RdB w w.heap.size A L) (hl : K.Bytes L) (hc : L.length ≤ c) (hn : L.length ≤ 2000) (hx : toks L = .ok xs) :
    Calls Tryd.prog 30 #[.slice A L.length c] w (ToksAns L (.ok xs) w) := by
  have HSK := hide (fun (w1 : World) (h : Below w.heap.size w w1) (k : Nat) (hk : k < L.length) (he : (T.piece (L.drop k)).2.2 = 0) => rskip_any A c w.heap.size L k w1 (hr.below h (Nat.le_refl _)) hl hc (by omega) hk he)
  have HON := hide (fun (w1 : World) (h : Below w.heap.size w w1) (k : Nat) (hk : k < L.length) (he : (T.piece (L.drop k)).2.2 = 0) (hx : (T.piece (L.drop k)).1 ≠ 0) => rone_any A c L k w1 (hr.up h) hl hc hn hk he hx)
  have HAT := hide (fun (w1 : World) (h : Below w.heap.size w w1) => rat_in A c w.heap.size L L.length w1 (hr.below h (Nat.le_refl _)) hn (Nat.le_refl _))
  have HFN := hide (fun (k : Nat) (hk : k < L.length) => T.piece_fine (L.drop k) (by rw [List.length_drop]; omega) (hl.drop k))
  have HX := hide hx
  have HB0 : Hid (Below w.heap.size w w) := hide (Below.refl _ _)
  have SC := fun a w m X Y => show (store a (.complex .f64 X Y) m).run Tryd.prog w = stored Tryd.prog w a (.complex .f64 X Y) m from run_store _ w a _ m rfl
  clear hr hl hx
  go_enter Tryd.func30, Tryd.ntmps30
  go_wp2
  go_loopw [5, 6, 7] (fun v vk vm wr => ∃ (f k m : Nat) (acc : List Tok), vk = .int .i64 k ∧ vm = .int .i64 m ∧ k ≤ L.length ∧ m ≤ 2 ∧ L.length < k + f ∧ acc.length ≤ k ∧ OwnT L wr w.heap.size v acc ∧ Below w.heap.size w wr ∧ scan f (L.drop k) k m acc = .ok xs) (fun _ vk _ _ => L.length - (intOf vk).toNat)
  case atStart => exact ⟨L.length + 1, 0, 0, [], rfl, rfl, by omega, by omega, by omega, by simp, OwnT.nil _ _ _, HB0.out, by have := HX.out; unfold toks at this; simpa using this⟩
  case round =>
    clear HX HB0
    obtain ⟨f, k, m, acc, rfl, rfl, hk, hmk, hf, hacc, ho, hb, hsc⟩ := hrel
    have HO := hide ho
    have HB := hide hb
    have HSC := hide hsc
    have HMK := hide hmk
    obtain ⟨A0, c0, rfl, hq1, hq2⟩ := ho.form
    clear ho hb hsc hmk hq1 hq2
    by_cases hend : L.length ≤ k ∨ 2 ≤ m
    · have hmb := HMK.out
      have hxs : xs = acc := by
        have := HSC.out
        rw [scan_end _ _ _ _ _ (by rw [List.length_drop]; omega)] at this
        injection this with this
        exact this.symm
      subst hxs
      have HATw := hide (HAT.out wr HB.out)
      rw [List.take_length] at HATw
      clear HAT HSK HON HFN HSC
      by_cases hlt : k < L.length
      · have hm2 : ¬ (m : Int) < 2 := by omega
        clear hend
        go_wp2_with fail
        refine (HATw.out).mono ?_; rintro _ w' ⟨rfl, rfl⟩
        go_wp2
        go_ret3
        exact ⟨_, rfl, HO.out, HB.out⟩
      · have hlt2 : ¬ (k : Int) < (L.length : Int) := by omega
        clear hend
        go_wp2_with fail
        refine (HATw.out).mono ?_; rintro _ w' ⟨rfl, rfl⟩
        go_wp2
        go_ret3
        exact ⟨_, rfl, HO.out, HB.out⟩
    · have hlt : k < L.length := by omega
      have hm2 : (m : Int) < 2 := by omega
      obtain ⟨f, rfl⟩ : ∃ f', f = f' + 1 := ⟨f - 1, by omega⟩
      have hne : ¬ ((L.drop k).length = 0 ∨ m = 2) := by rw [List.length_drop]; omega
      have he : (T.piece (L.drop k)).2.2 = 0 := by
        by_cases h : (T.piece (L.drop k)).2.2 = 0
        · exact h
        · have := HSC.out
          rw [scan_bad _ _ _ _ _ hne h] at this
          cases this
      have hso := HSC.out
      rw [scan_on _ _ _ _ _ hne he, List.drop_drop] at hso
      have hfine := HFN.out k hlt
      obtain ⟨h1, h2, h3, _, _, _⟩ := hfine
      obtain ⟨h4, h5, _, _⟩ := h1 he
      rw [List.length_drop] at h5
      have HSKw := hide (HSK.out wr HB.out k hlt he)
      have HONw := hide (HON.out wr HB.out k hlt he)
      clear HSK HON HFN HAT HSC h1 hne hend
      unfold oneV at HONw
      generalize T.piece (L.drop k) = x at *
      obtain ⟨xk, xn, xe⟩ := x
      simp only at he h2 h3 h4 h5
      subst he
      have HSO := hide hso
      clear hso
      by_cases hk0 : xk = 0
      · subst hk0
        have hv : skipV k (0, xn, 0) = .tuple #[.int .i64 ((k + xn : Nat) : Int), .bool true] := rfl
        rw [hv] at HSKw
        have HS2 : Hid (scan f (L.drop (k + xn)) (k + xn) m acc = .ok xs) := hide HSO.out
        have hpos : ¬ ((k + xn : Nat) : Int) < 0 := by omega
        clear hv HSO HONw
        generalize hj : k + xn = j at *
        have HJ := hide hj
        clear hj
        go_wp2_with fail
        refine HSKw.out.mono ?_; rintro _ w' ⟨rfl, rfl⟩
        go_wp2
        go_roundw
        case rel => exact ⟨f, j, m, acc, rfl, rfl, by have := HJ.out; omega, HMK.out, by have := HJ.out; omega, by have := HJ.out; omega, HO.out, HB.out, HS2.out⟩
        case measure => have := HJ.out; simp [intOf]; omega
      · have hv : skipV k (xk, xn, 0) = .tuple #[.int .i64 k, .bool false] := skipV_no hk0
        rw [hv] at HSKw
        have HO1 := hide (HONw.out hk0)
        simp only at HO1
        have HMR : Hid (more acc k (xk, xn, 0) (L.drop k) = acc ++ [⟨xk, ttext xk ((L.drop k).take xn), k⟩]) := hide (by unfold more; rw [if_neg hk0])
        rw [HMR.out] at HSO
        have hpos : ¬ ((k : Nat) : Int) < 0 := by omega
        clear hv HONw HMR hk0
        go_wp2_with fail
        refine HSKw.out.mono ?_; rintro _ w' ⟨rfl, rfl⟩
        go_wp2_with fail
        refine HO1.out.mono ?_; rintro _ w2 ⟨rfl, hb2⟩
        have HB2 := hide (HB.out.trans (hb2.mono HB.out.size))
        have HO2 := hide (HO.out.below hb2 (Nat.le_refl _))
        clear hb2 HO1 HSKw HO HB
        have HCE : Hid (∀ o j u, (tcells L ⟨xk, ttext xk ((L.drop k).take xn), k⟩)[j]? = some u → ((w2.alloc o).alloc (.cells #[.int .i64 xk, .string (K.str (ttext xk ((L.drop k).take xn))), .complex .f64 (Fl.fl (Pl.pos (L.take k)).1) (Fl.fl (Pl.pos (L.take k)).2)] 105)).cell? ⟨w2.heap.size + 1, j, none⟩ = some u) := hide (by
          intro o j u hu
          have e : w2.heap.size + 1 = (w2.alloc o).heap.size := by simp
          rw [e, World.cell?_alloc_new]
          simpa [tcells] using hu)
        have HGW := hide (fun o1 o2 => (HB2.out.alloc HB2.out.size o1).alloc (by have := HB2.out.size; simp; omega) o2)
        rcases hk9 : (xk == 9) with _ | _
        · have HMK2 : Hid (marksOn m (xk, xn, 0) = m) := hide (by unfold marksOn; rw [if_neg (by simpa using hk9)])
          rw [HMK2.out] at HSO
          go_wp2_with (at_builtin; refine apT_arm rfl (.tmp 54) (.tmp 56) _ rfl Tryd.underlying72 L w.heap.size _ acc rfl ((HO2.out.alloc _).alloc _) _ 1 ⟨xk, ttext xk ((L.drop k).take xn), k⟩ rfl (HCE.out _) (by omega) (by have := HB2.out.size; simp; omega) ?_; intro v3 w3 ho3 hg3)
          have HB3 := hide (below_grownT (HGW.out _ _) ((HO2.out.alloc _).alloc _) hg3 (by have := HB2.out.size; simp; omega))
          have HO3 := hide ho3
          clear ho3 hg3
          go_roundw
          case rel => exact ⟨f, k + xn, m, acc ++ [⟨xk, ttext xk ((L.drop k).take xn), k⟩], by go_num, rfl, by omega, by have := HMK.out; omega, by omega, by simp; omega, HO3.out, HB3.out, HSO.out⟩
          case measure => simp [intOf]; omega
        · have HMK2 : Hid (marksOn m (xk, xn, 0) = m + 1) := hide (by unfold marksOn; rw [if_pos (by simpa using hk9)])
          rw [HMK2.out] at HSO
          go_wp2_with (at_builtin; refine apT_arm rfl (.tmp 54) (.tmp 56) _ rfl Tryd.underlying72 L w.heap.size _ acc rfl ((HO2.out.alloc _).alloc _) _ 1 ⟨xk, ttext xk ((L.drop k).take xn), k⟩ rfl (HCE.out _) (by omega) (by have := HB2.out.size; simp; omega) ?_; intro v3 w3 ho3 hg3)
          have HB3 := hide (below_grownT (HGW.out _ _) ((HO2.out.alloc _).alloc _) hg3 (by have := HB2.out.size; simp; omega))
          have HO3 := hide ho3
          clear ho3 hg3
          go_roundw
          case rel => exact ⟨f, k + xn, m + 1, acc ++ [⟨xk, ttext xk ((L.drop k).take xn), k⟩], by go_num, by go_num, by omega, by have := HMK.out; omega, by omega, by simp; omega, HO3.out, HB3.out, HSO.out⟩
          case measure => simp [intOf]; omega
end Go.Proofs.YtkfelkpilaipnaaDoor

namespace Go.Proofs.YtkfelkpilaipnaaDoor
set_option maxRecDepth 100000
open Go.RowKit

theorem OwnD.less5 {L : List Int} {w : World} {base base' : Nat} {v : Value} {ds : List Y.Dcl} (h : OwnD L w base v ds) (hb : base' ≤ base) : OwnD L w base' v ds := by
  obtain ⟨qs, h1, h2, h3⟩ := h
  refine ⟨qs, h1, ⟨h2.1, ?_⟩, fun q hq => (h3 q hq).less hb⟩
  rcases h2.2 with h0 | ⟨g, cap, cur, e, hb1, hr⟩
  · exact .inl h0
  · exact .inr ⟨g, cap, cur, e, by omega, hr⟩
theorem OwnP.less5 {L : List Int} {w : World} {base base' : Nat} {v : Value} {ps : List Y.Prd} (h : OwnP L w base v ps) (hb : base' ≤ base) : OwnP L w base' v ps := by
  obtain ⟨qs, h1, h2, h3⟩ := h
  refine ⟨qs, h1, ⟨h2.1, ?_⟩, fun q hq => (h3 q hq).less hb⟩
  rcases h2.2 with h0 | ⟨g, cap, cur, e, hb1, hr⟩
  · exact .inl h0
  · exact .inr ⟨g, cap, cur, e, by omega, hr⟩
theorem src_other {w : World} {g : Nat} {cs : Array Value} (h : w.heap[g]? = some (.cells cs 53 (0, 0))) : Other w (some g) := other_of h (by decide)
set_option maxHeartbeats 8000000 in
theorem of8 (L : List Int) (A : Option Addr) (c px py : Nat) (ts : List Tok) (ds : List Y.Dcl) (ps : List Y.Prd) (m m2 : List Tok) (t9 : Tok) (w : World) (hr : RdT L w w.heap.size A ts) (hc : ts.length ≤ c) (h4 : ts.length ≤ 4000)
    (hd : Y.decls (ts.length + 1) [] ts = .ok ds m) (hk : ∀ d ∈ ds, d.k = 4 ∨ d.k = 5) (h9 : Y.take [9] m = .ok t9 m2) (hg : Y.group [] m2 = .ok ps []) :
    Calls Tryd.prog 31 #[.slice A ts.length c, .complex .f64 px py] w fun e w' => ∃ dv pv, e = .returned (.tuple #[.agg #[dv, pv], .complex .f64 0 0, .int .i64 0]) ∧ OwnD L w' w.heap.size dv ds ∧ OwnP L w' w.heap.size pv ps ∧ Below w.heap.size w w' := by
  have SC := fun a w m X Y => show (store a (.complex .f64 X Y) m).run Tryd.prog w = stored Tryd.prog w a (.complex .f64 X Y) m from run_store _ w a _ m rfl
  have BR := fun A (n c : Nat) X Y w => (run_build w 110 _ _ (by kernel_rfl) : (Instr.build 110 #[(0, .slice A n c), (1, .complex .f64 X Y)]).run Tryd.prog w = .ok (.agg #[.slice A n c, .complex .f64 X Y, .complex .f64 0 0, .int .i64 0]) w)
  have BS := fun A (n c : Nat) w => (run_build w 53 _ _ (by kernel_rfl) : (Instr.build 53 #[(0, .slice A n c)]).run Tryd.prog w = .ok (.agg #[.slice A n c, .slice none 0 0]) w)
  have HB0 := hide (((Below.refl w.heap.size w).alloc (Nat.le_refl _) (.cells #[.slice none 0 0, .slice none 0 0] 53)).alloc (by simp) (.cells #[.slice A ts.length c, .complex .f64 px py, .complex .f64 0 0, .int .i64 0] 110))
  have HR1 : Hid (Rd8 L w.heap.size (w.heap.size + 1) px py ((w.alloc (.cells #[.slice none 0 0, .slice none 0 0] 53)).alloc (.cells #[.slice A ts.length c, .complex .f64 px py, .complex .f64 0 0, .int .i64 0] 110)) ts) := hide ⟨A, c, by have := heap_alloc_new (w.alloc (.cells #[.slice none 0 0, .slice none 0 0] 53)) (.cells #[.slice A ts.length c, .complex .f64 px py, .complex .f64 0 0, .int .i64 0] 110); rwa [show (w.alloc (.cells #[.slice none 0 0, .slice none 0 0] 53)).heap.size = w.heap.size + 1 by simp] at this, hc, h4, hr.below HB0.out (Nat.le_refl _), by omega⟩
  have HD := hide (fun (x : World) (B R : Nat) (h : Rd8 L B R px py x ts) => decls8 L B R px py (ts.length + 1) ts ds m x h hd (by omega) hk)
  have H9 := hide (fun (x : World) (B R : Nat) (h : Rd8 L B R px py x m) => take8' L B R px py m 9 9 x h t9 m2 ((take_two 9 m).trans h9))
  have HG := hide (fun (x : World) (B R : Nat) (h : Rd8 L B R px py x m2) => group8 L B R px py m2 ps [] x h hg)
  unfold refV at H9
  clear hr hc h4 hd hk h9 hg
  go_enter Tryd.func31, Tryd.ntmps31
  go_wp2_with fail
  refine (HD.out _ _ _ HR1.out).mono ?_; rintro _ w2 ⟨hg2, v2, rfl, ho2, hr2⟩
  have hz0 := block_at hg2 ((Below.block (B := w.heap.size + 1) ((Below.refl _ (w.alloc (.cells #[.slice none 0 0, .slice none 0 0] 53))).alloc (by simp) (.cells #[.slice A ts.length c, .complex .f64 px py, .complex .f64 0 0, .int .i64 0] 110)) w.heap.size (by omega)).trans (heap_alloc_new w _)) (by omega)
  obtain ⟨A2, c2, rfl, _, _⟩ := ho2.form
  have HG2 := hide hg2
  have hs2 : w.heap.size + 2 ≤ w2.heap.size := by have := hg2.size; simpa using this
  have HO2 := hide ho2
  have HRO := hide hr2.other
  have HR2 := hide (hr2.alloc (.cells #[.slice A2 ds.length c2, .slice none 0 0] 53))
  have HZ2 := hide ((Below.heap_alloc w2 (.cells #[.slice A2 ds.length c2, .slice none 0 0] 53) w.heap.size (by omega)).trans hz0)
  clear hg2 ho2 hr2 hz0
  go_wp2_with fail
  refine (H9.out _ _ _ HR2.out).mono ?_; rintro _ w3 ⟨rfl, hg3, hr3⟩
  have HG3 := hide hg3
  have HR3 := hide hr3
  have HZ3 := hide (block_at hg3 HZ2.out (by omega))
  have HB3 := hide (block_kept hg3 (by omega : w.heap.size + 1 < w2.heap.size))
  clear hg3 hr3
  go_wp2_with fail
  refine (HG.out _ _ _ HR3.out).mono ?_; rintro _ w4 ⟨hg4, v4, rfl, ho4, hr4⟩
  obtain ⟨A4, c4, rfl, _, _⟩ := ho4.form
  have hs3 : w2.heap.size + 1 ≤ w3.heap.size := by have := HG3.out.size; simpa using this
  have hs4 : w3.heap.size ≤ w4.heap.size := hg4.size
  have hb4 := block_at hg4 HB3.out (by omega)
  have hz4 := block_at hg4 HZ3.out (by omega)
  have HGA := hide ((only_alloc HG2.out (.cells #[.slice A2 ds.length c2, .slice none 0 0] 53)).trans (HG3.out.trans hg4))
  have b0 := cell_of_row w4 _ 0 _ _ _ hb4
  have b1 := cell_of_row w4 _ 1 _ _ _ hb4
  have fb1 := frozen_of_row w4 _ 1 _ _ hb4
  have z0 := cell_of_row w4 _ 0 _ _ _ hz4
  have z1 := cell_of_row w4 _ 1 _ _ _ hz4
  have fz0 := frozen_of_row w4 _ 0 _ _ hz4
  have fz1 := frozen_of_row w4 _ 1 _ _ hz4
  have hRl := hr4.lt
  have HO4 := hide ho4
  have HOD4 := hide (HO2.out.grown ((only_alloc (World.grownBy.refl w2 (some (w.heap.size + 1))) (.cells #[.slice A2 ds.length c2, .slice none 0 0] 53)).trans (HG3.out.trans hg4)) ⟨HRO.out, by obtain ⟨z, hz⟩ := HO2.out.own; simp at hz; exact own_off hz (by omega)⟩)
  have HW5 : ∃ w5 : World, w5 = w4.setCell ⟨w2.heap.size, 1, none⟩ (.slice A4 ps.length c4) := ⟨_, rfl⟩
  obtain ⟨w5, hw5⟩ := HW5
  have hb5 : w5.heap[w2.heap.size]? = some (.cells #[.slice A2 ds.length c2, .slice A4 ps.length c4] 53 (0, 0)) := by rw [hw5, heap_setCell_same w4 _ 1 _ _ _ hb4]; rfl
  have hz5 : w5.heap[w.heap.size]? = some (.cells #[.slice none 0 0, .slice none 0 0] 53 (0, 0)) := by rw [hw5, Below.heap_setCell _ _ _ _ (by simp only; omega)]; exact hz4
  have HR5 : Hid (Rd8 L w.heap.size (w.heap.size + 1) px py w5 []) := hide (by rw [hw5]; exact hr4.far _ _ _ (by omega))
  have HOD5 : Hid (OwnD L w5 (w.heap.size + 2) (.slice A2 ds.length c2) ds) := hide (by rw [hw5]; have h := HOD4.out.grown (only_set (World.grownBy.refl w4 (some w2.heap.size)) 1 (.slice A4 ps.length c4)) ⟨src_other hb4, by obtain ⟨z, hz⟩ := HOD4.out.own; exact own_away hz hb4 (fun cur e => by injection e with _ e; exact absurd e (by decide))⟩; simpa using h)
  have HOP5 : Hid (OwnP L w5 w3.heap.size (.slice A4 ps.length c4) ps) := hide (by rw [hw5]; exact ho4.grown (only_set (World.grownBy.refl w4 (some w2.heap.size)) 1 (.slice A4 ps.length c4)) ⟨src_other hb4, by obtain ⟨z, hz⟩ := ho4.own; exact own_away hz hb4 (fun cur e => by injection e with _ e; exact absurd e (by decide))⟩)
  have HBW : Hid (Below w.heap.size w w5) := hide (by
    rw [hw5]
    refine Below.setCell ?_ (p := ⟨w2.heap.size, 1, none⟩) (by simp only; omega) _
    exact HB0.out.grown HGA.out (by simp; omega) (fun k e => by injection e with e; omega))
  clear hg4 ho4 hr4
  go_wp2_with fail
  rw [← hw5]
  have p0 := cell_of_row w5 _ 0 _ _ _ hb5
  have p1 := cell_of_row w5 _ 1 _ _ _ hb5
  have y0 := cell_of_row w5 _ 0 _ _ _ hz5
  have y1 := cell_of_row w5 _ 1 _ _ _ hz5
  have gz0 := frozen_of_row w5 _ 0 _ _ hz5
  have gz1 := frozen_of_row w5 _ 1 _ _ hz5
  obtain ⟨A6, c6, r0, r3, _⟩ := HR5.out.cell0
  have hsz5 : w.heap.size < w5.heap.size := (Array.getElem?_eq_some_iff.1 hz5).1
  have hsb5 : w2.heap.size < w5.heap.size := (Array.getElem?_eq_some_iff.1 hb5).1
  have HZ5 := hide hz5
  clear hw5 hb5 hz5 b0 b1 fb1 z0 z1 fz0 fz1 hb4 hz4 HO4 HOD4
  go_loopw [] (fun wt => w5 = wt) (fun _ => 0)
  case atStart => exact rfl
  case round =>
    obtain rfl := hrel
    go_wp2
    have hgf := only_set (only_set (World.grownBy.refl w5 (some w.heap.size)) 0 (.slice A2 ds.length c2)) 1 (.slice A4 ps.length c4)
    refine bodyPost_ret (v := .tuple #[.agg #[.slice A2 ds.length c2, .slice A4 ps.length c4], .complex .f64 0 0, .int .i64 0]) (by simp [results, Tryd.results31, go_sem, y0, y1]) rfl ⟨_, _, rfl, ?_, ?_, ?_⟩
    · exact (HOD5.out.grown hgf ⟨src_other HZ5.out, by obtain ⟨z, hz⟩ := HOD5.out.own; exact own_off hz (by omega)⟩).less5 (by omega)
    · exact (HOP5.out.grown hgf ⟨src_other HZ5.out, by obtain ⟨z, hz⟩ := HOP5.out.own; exact own_off hz (by omega)⟩).less5 (by omega)
    · exact HBW.out.grown hgf HBW.out.size (fun k e => by injection e with e; omega)
end Go.Proofs.YtkfelkpilaipnaaDoor
