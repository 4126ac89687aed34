/- The contract of the statements' listed references of a source, over this program. -/
import Derived.Test.YtgmcpkecppfkgaaYaccParse
import Derived.Test.YtgmcpkecppfkgaaRef7
import Derived.IntWalk
import Derived.Deep.DeepCutAuto
namespace Go.Proofs.Ytgmcpkecppfkgaa
set_option maxRecDepth 100000
open Go.RowKit

theorem OwnD.at {L : List Int} {w : World} {base : Nat} {v : Value} {ds : List Y.Dcl} (h : OwnD L w base v ds) (i : Nat) (hi : i < ds.length) : ∃ D c A c', v = .slice (some ⟨D, 0, none⟩) ds.length c ∧ w.cell? ⟨D, i * 2, none⟩ = some (.int .i64 ds[i].k) ∧ w.cell? ⟨D, i * 2 + 1, none⟩ = some (.slice A ds[i].ns.length c') ∧ RdR L w base A ds[i].ns := by
  obtain ⟨qs, rfl, h2, h3⟩ := h
  have hi' : i < qs.length := by simpa using hi
  rcases h2.2 with ⟨_, h0⟩ | ⟨g, cap, cur, rfl, _⟩
  · omega
  · refine ⟨g, cap, qs[i].2.1, qs[i].2.2, rfl, ?_, ?_, ?_⟩
    · have := World.ownsRow.cells h2 (g := g) rfl (i * 2 + 0) _ (by rw [dall_at qs i 0 hi' (by omega)]; rfl)
      rw [addZ, Nat.zero_add] at this
      simpa using this
    · have := World.ownsRow.cells h2 (g := g) rfl (i * 2 + 1) _ (by rw [dall_at qs i 1 hi' (by omega)]; rfl)
      rw [addZ, Nat.zero_add] at this
      simpa using this
    · have := h3 qs[i] (List.getElem_mem hi')
      simpa using this
theorem OwnP.at {L : List Int} {w : World} {base : Nat} {v : Value} {ps : List Y.Prd} (h : OwnP L w base v ps) (i : Nat) (hi : i < ps.length) : ∃ D c A c', v = .slice (some ⟨D, 0, none⟩) ps.length c ∧ (∀ j u, j < 5 → (pcells L ps[i] A c')[j]? = some u → w.cell? ⟨D, i * 5 + j, none⟩ = some u) ∧ RdR L w base A ps[i].r := by
  obtain ⟨qs, rfl, h2, h3⟩ := h
  have hi' : i < qs.length := by simpa using hi
  rcases h2.2 with ⟨_, h0⟩ | ⟨g, cap, cur, rfl, _⟩
  · omega
  · refine ⟨g, cap, qs[i].2.1, qs[i].2.2, rfl, fun j u hj hu => ?_, ?_⟩
    · have := World.ownsRow.cells h2 (g := g) rfl (i * 5 + j) u (by rw [pall_at L qs i j hi' hj]; simpa using hu)
      rw [addZ, Nat.zero_add] at this
      exact this
    · have := h3 qs[i] (List.getElem_mem hi')
      simpa using this

namespace Y
theorem prefs_snoc (p : Prd) : ∀ (ps : List Prd) (q : Option Nat), prefs q (ps ++ [p]) = prefs q ps ++ ((if (ps.getLast?.map (·.l.o)).or q = some p.l.o then [] else [p.l]) ++ p.refs)
  | [], q => by
    simp [prefs]
    congr
  | x :: r, q => by
    rw [List.cons_append, prefs, prefs_snoc p r, prefs]
    have e : ((r.getLast?.map (·.l.o)).or (some x.l.o)) = (((x :: r).getLast?.map (·.l.o)).or q) := by
      cases r with
      | nil => simp
      | cons a b => simp [List.getLast?_cons]
    rw [e]
    simp [List.append_assoc]
/-- The listed references up to a rule. -/
theorem prefs_take (ps : List Prd) (i : Nat) (hi : i < ps.length) : prefs none (ps.take (i + 1)) = prefs none (ps.take i) ++ ((if 0 < i ∧ ps[i - 1].l.o = ps[i].l.o then [] else [ps[i].l]) ++ ps[i].refs) := by
  rw [List.take_succ_eq_append_getElem hi, prefs_snoc]
  congr 2
  rcases Nat.eq_zero_or_pos i with h0 | h0
  · subst h0; simp
  · have e : (ps.take i).getLast? = some ps[i - 1] := by
      rw [List.getLast?_eq_getElem?, List.length_take, Nat.min_eq_left (by omega), List.getElem?_take_of_lt (by omega), List.getElem?_eq_getElem (by omega)]
    rw [e]
    simp [h0]
theorem flat_take (ds : List Dcl) (i : Nat) (hi : i < ds.length) : (ds.take (i + 1)).flatMap Dcl.refs = (ds.take i).flatMap Dcl.refs ++ ds[i].ns := by
  rw [List.take_succ_eq_append_getElem hi, List.flatMap_append]
  simp [Dcl.refs]
end Y

theorem OwnR.base_le {L : List Int} {w : World} {base base' : Nat} {v : Value} {xs : List Tok} (h : OwnR L w base v xs) (hb : base' ≤ base) : OwnR L w base' v xs := by
  refine ⟨h.1, ?_⟩
  rcases h.2 with h0 | ⟨g, cap, cur, e, hb1, hr⟩
  · exact .inl h0
  · exact .inr ⟨g, cap, cur, e, by omega, hr⟩
theorem precells_form (L : List Int) (p : Option Tok) : ∃ s3 a4 b4, precells L p = [.string s3, .complex .f64 a4 b4] ∧ (p = none → s3 = ⟨#[]⟩) ∧ ∀ t, p = some t → s3 = K.str t.t ∧ a4 = Fl.fl (Pl.pos (L.take t.o)).1 ∧ b4 = Fl.fl (Pl.pos (L.take t.o)).2 := by
  cases p with
  | none => exact ⟨⟨#[]⟩, 0, 0, rfl, fun _ => rfl, fun t h => by cases h⟩
  | some t =>
    refine ⟨K.str t.t, Fl.fl (Pl.pos (L.take t.o)).1, Fl.fl (Pl.pos (L.take t.o)).2, rfl, ?_, ?_⟩
    · intro h; cases h
    · intro t' h
      injection h with h
      subst h
      exact ⟨rfl, rfl, rfl⟩
theorem own_keepb {L : List Int} {w w' : World} {base : Nat} {v : Value} {xs : List Tok} {g : Nat} {cs : Array Value} (h : OwnR L w base v xs) (hb : w.heap[g]? = some (.cells cs 44 (0, 0))) (hg : w.grownBy w' v.ownBlock) : w'.heap[g]? = some (.cells cs 44 (0, 0)) :=
  own_keep h hb (by decide) hg
theorem apR_pk {w : World} {ops : Array Oper} {rest : List Oper} {o : Oper} {a : Act} {Q : Exit → Act → World → Prop}
    (hgd : o.guard = none) (s x : Operand) (t : TypeId) (ho : o.op = .call { callee := .builtin .append, args := #[s, x], argTypes := #[t, t] }) (ht : Try.prog.underlying t = some (.slice 40))
    (L : List Int) (a1 : World) (v : Value) (xs : List Tok) (hs : a.eval s = v) (hown : OwnR L w a1.heap.size v xs) (y : Tok) (c : Nat) (hx : a.eval x = .slice (some ⟨w.heap.size, 0, none⟩) 1 c) (hB : Below a1.heap.size a1 w)
    (hlen : xs.length ≤ 1000000)
    (hK : ∀ v' w', OwnR L w' a1.heap.size v' (xs ++ [y]) → Below a1.heap.size a1 w' → (∀ (g : Nat) (cs : Array Value), w.heap[g]? = some (.cells cs 44 (0, 0)) → w'.heap[g]? = some (.cells cs 44 (0, 0))) → wpList Try.prog ops Q rest (a.put o.dst v') w') :
    wpList Try.prog ops Q (o :: rest) a (w.alloc (.cells #[.string (K.str y.t), .complex .f64 (Fl.fl (Pl.pos (L.take y.o)).1) (Fl.fl (Pl.pos (L.take y.o)).2)] 40)) := by
  refine apR_arm hgd s x t ho ht L a1.heap.size v xs hs (hown.alloc _) w.heap.size c y hx (ref_cells L w y) hlen (Nat.le_trans hB.size (by simp)) fun v' w' h1 h2 => hK v' w' h1 ?_ ?_
  · exact (hB.alloc hB.size _).grown h2 (Nat.le_trans hB.size (by simp)) (fun k e => (World.ownsRow.lt (hown.alloc (.cells #[.string (K.str y.t), .complex .f64 (Fl.fl (Pl.pos (L.take y.o)).1) (Fl.fl (Pl.pos (L.take y.o)).2)] 40)) k e).1)
  · intro g cs hg
    exact own_keepb (hown.alloc _) ((Below.heap_alloc w _ g (Array.getElem?_eq_some_iff.1 hg).1).trans hg) h2
theorem apnR_pk {w : World} {ops : Array Oper} {rest : List Oper} {o : Oper} {a : Act} {Q : Exit → Act → World → Prop}
    (hgd : o.guard = none) (s x : Operand) (t : TypeId) (ho : o.op = .call { callee := .builtin .append, args := #[s, x], argTypes := #[t, t] }) (ht : Try.prog.underlying t = some (.slice 40))
    (L : List Int) (B2 : Nat) (a1 : World) (v : Value) (xs : List Tok) (hs : a.eval s = v) (hown : OwnR L w a1.heap.size v xs) (A : Option Addr) (m c : Nat) (ys : List Tok) (hx : a.eval x = .slice A m c) (hm : m = ys.length) (hr : RdR L w B2 A ys) (hB : Below a1.heap.size a1 w)
    (hlen : xs.length + ys.length ≤ 1000000)
    (hK : ∀ v' w', OwnR L w' a1.heap.size v' (xs ++ ys) → Below a1.heap.size a1 w' → (∀ (g : Nat) (cs : Array Value), w.heap[g]? = some (.cells cs 44 (0, 0)) → w'.heap[g]? = some (.cells cs 44 (0, 0))) → wpList Try.prog ops Q rest (a.put o.dst v') w') :
    wpList Try.prog ops Q (o :: rest) a w := by
  refine apnR_arm hgd s x t ho ht L a1.heap.size B2 v xs hs hown A m c ys hx hm hr hlen hB.size fun v' w' h1 h2 => hK v' w' h1 ?_ ?_
  · exact hB.grown h2 hB.size (fun k e => (World.ownsRow.lt hown k e).1)
  · intro g cs hg
    exact own_keepb hown hg h2
theorem equal_cb (d : Nat) (a b a' b' : Nat) (w : World) : (Op.equalIn (d + 1) 28 (.complex .f64 a b) (.complex .f64 a' b')).run Try.prog w = .ok (Op.floatEq .f64 a a' && Op.floatEq .f64 b b') w := by
  simp [Op.equalIn, run_underlying Try.underlying28]

set_option maxHeartbeats 4000000 in
theorem listed_any (L : List Int) (dv pv : Value) (ds : List Y.Dcl) (ps : List Y.Prd) (w : World) (base : Nat) (hod : OwnD L w base dv ds) (hop : OwnP L w base pv ps) (hlen : (Y.listed ds ps).length ≤ 4000) (hds : ds.length ≤ 4000) (hps : ps.length ≤ 4000)
    (hpr : ∀ p ∈ ps, ∀ t, p.p = some t → t.t ≠ []) (hpl : ∀ i j (hi : i < ps.length) (hj : j < ps.length), (Op.floatEq .f64 (Fl.fl (Pl.pos (L.take ps[i].l.o)).1) (Fl.fl (Pl.pos (L.take ps[j].l.o)).1) && Op.floatEq .f64 (Fl.fl (Pl.pos (L.take ps[i].l.o)).2) (Fl.fl (Pl.pos (L.take ps[j].l.o)).2)) = decide (ps[i].l.o = ps[j].l.o)) (hpt : ∀ i j (hi : i < ps.length) (hj : j < ps.length), ps[i].l.o = ps[j].l.o → ps[i].l.t = ps[j].l.t) :
    Calls Try.prog 7 #[.agg #[dv, pv]] w fun e w' => ∃ v, e = .returned v ∧ OwnR L w' w.heap.size v (Y.listed ds ps) ∧ Below w.heap.size w w' := by
  have HB0 := hide (fun o => ((Below.refl w.heap.size w).alloc (Nat.le_refl _) o))
  have HOD := hide (fun (x : World) (h : Below w.heap.size w x) => hod.grown (only_below h .none) (Away.none _ _))
  have HOP := hide (fun (x : World) (h : Below w.heap.size w x) => hop.grown (only_below h .none) (Away.none _ _))
  obtain ⟨DA, DC, rfl, _, _⟩ := hod.form
  obtain ⟨PA', PC, rfl, _, _⟩ := hop.form
  have SC := fun a w m X Y => show (store a (.complex .f64 X Y) m).run Try.prog w = stored Try.prog w a (.complex .f64 X Y) m from run_store _ w a _ m rfl
  clear hod hop
  go_enter Try.func7, Try.ntmps7
  go_wp2
  obtain ⟨w1, hw1⟩ : ∃ x, x = w.alloc (.cells #[.slice DA ds.length DC, .slice PA' ps.length PC] 27) := ⟨_, rfl⟩
  rw [← hw1]
  have HB1 : Hid (Below w.heap.size w w1) := hide (by rw [hw1]; exact HB0.out _)
  have hs1 : w1.heap.size = w.heap.size + 1 := by rw [hw1]; simp
  have HBK : Hid (w1.heap[w.heap.size]? = some (.cells #[.slice DA ds.length DC, .slice PA' ps.length PC] 27 (0, 0))) := hide (by rw [hw1]; exact heap_alloc_new w _)
  clear hw1
  have HCL := hide (fun (x : World) (h : Below w1.heap.size w1 x) => (h.block w.heap.size (by omega)).trans HBK.out)
  have HLN := hide hlen
  clear hlen
  go_loopw [3, 4] (fun v vi wr => ∃ (i : Nat), vi = .int .i64 i ∧ i ≤ ds.length ∧ OwnR L wr w1.heap.size v ((ds.take i).flatMap Y.Dcl.refs) ∧ Below w1.heap.size w1 wr) (fun _ vi _ => ds.length - (intOf vi).toNat)
  case atStart => exact ⟨0, rfl, by omega, OwnR.nil _ _ _, Below.refl _ _⟩
  case round =>
    obtain ⟨i, rfl, hi, ho, hb⟩ := hrel
    obtain ⟨wo, hwo⟩ : ∃ wo : World, wo = wr := ⟨_, rfl⟩
    subst hwo
    have HO := hide ho
    have HB := hide hb
    have hbk := HCL.out wo hb
    have e0 := cell_of_row wo _ 0 _ _ _ hbk
    have e1 := cell_of_row wo _ 1 _ _ _ hbk
    obtain ⟨A0, c0, rfl, _, _, _⟩ := ho.rd
    have HBW := hide (HB1.out.trans (hb.mono HB1.out.size))
    clear ho hb hbk
    by_cases hlt : i < ds.length
    · obtain ⟨D, c, A, c', hv, hk0, hk1, hrr⟩ := (HOD.out wo HBW.out).at i hlt
      injection hv with hv1 hv2 hv3
      subst hv1 hv3
      have HRR := hide hrr
      have hbl : ((ds.take i).flatMap Y.Dcl.refs).length + ds[i].ns.length ≤ 1000000 := by
        have h1 := HLN.out
        have h2 : (ds.take (i + 1)).flatMap Y.Dcl.refs = (ds.take i).flatMap Y.Dcl.refs ++ ds[i].ns := Y.flat_take ds i hlt
        have h3 : ((ds.take (i + 1)).flatMap Y.Dcl.refs).length ≤ (ds.flatMap Y.Dcl.refs).length := by
          conv => rhs; rw [← List.take_append_drop (i + 1) ds, List.flatMap_append, List.length_append]
          omega
        unfold Y.listed at h1
        rw [List.length_append] at h1
        rw [h2, List.length_append] at h3
        omega
      have HBL := hide hbl
      have HLT := hide hlt
      have HT := hide (Y.flat_take ds i hlt)
      clear hrr hbl hk0
      go_wp2_with (at_builtin; refine apnR_arm rfl (.tmp 14) (.tmp 20) _ rfl Try.underlying35 L w1.heap.size base _ _ rfl HO.out A _ c' _ rfl rfl HRR.out HBL.out HB.out.size ?_; intro v3 w3 ho3 hg3)
      have HB3 : Hid (Below w1.heap.size w1 w3) := hide (HB.out.grown hg3 HB.out.size (fun k e => (World.ownsRow.lt HO.out k e).1))
      have HO3 := hide ho3
      clear ho3 hg3
      go_roundw
      case rel => exact ⟨i + 1, by go_num, HLT.out, by rw [HT.out]; exact HO3.out, HB3.out⟩
      case measure => have := HLT.out; simp [intOf]; omega
    · obtain rfl : i = ds.length := by omega
      rw [List.take_length] at HO
      clear HOD
      go_wp2
      go_loopw [3, 5] (fun v vi wr => ∃ (i : Nat), vi = .int .i64 i ∧ i ≤ ps.length ∧ OwnR L wr w1.heap.size v (ds.flatMap Y.Dcl.refs ++ Y.prefs none (ps.take i)) ∧ Below w1.heap.size w1 wr) (fun _ vi _ => ps.length - (intOf vi).toNat)
      case atStart => exact ⟨0, rfl, by omega, by simpa [Y.prefs] using HO.out, HB.out⟩
      case round =>
        clear HO HB HBW e0 e1
        obtain ⟨i, rfl, hi, ho, hb⟩ := hrel
        obtain ⟨w2, hw2⟩ : ∃ w2 : World, w2 = wr := ⟨_, rfl⟩
        subst hw2
        generalize hacc : ds.flatMap Y.Dcl.refs ++ Y.prefs none (ps.take i) = acc at ho
        have HACC := hide hacc
        clear hacc
        have HO := hide ho
        have HB := hide hb
        have hbk := HCL.out w2 hb
        have e0 := cell_of_row w2 _ 0 _ _ _ hbk
        have e1 := cell_of_row w2 _ 1 _ _ _ hbk
        obtain ⟨A2, c2, rfl, _, _, _⟩ := ho.rd
        have HBW := hide (HB1.out.trans (hb.mono HB1.out.size))
        clear ho hb hbk
        by_cases hlt : i < ps.length
        · have hop2 := HOP.out w (Below.refl _ _)
          obtain ⟨D, c, A, c', hv, hcellw, hrr⟩ := hop2.at i hlt
          have hcell : ∀ j u, j < 5 → (pcells L ps[i] A c')[j]? = some u → w2.cell? ⟨D, i * 5 + j, none⟩ = some u := fun j u hj hu => by
            have h := hcellw j u hj hu
            rw [← h]
            exact HBW.out.cell (p := ⟨D, i * 5 + j, none⟩) (block_lt_of_cell h)
          clear hcellw
          injection hv with hv1 hv2 hv3
          subst hv1 hv3
          have HLT := hide hlt
          have HPT := hide (Y.prefs_take ps i hlt)
          have hbl : acc.length + ps[i].r.length + 2 ≤ 1000000 := by
            rw [← HACC.out]
            have h1 := HLN.out
            have h3 : (Y.prefs none (ps.take (i + 1))).length ≤ (Y.prefs none ps).length := by
              have : ∀ (n : Nat), n ≤ ps.length → (Y.prefs none (ps.take n)).length ≤ (Y.prefs none ps).length := by
                intro n hn
                have h : ∀ d, n + d ≤ ps.length → (Y.prefs none (ps.take n)).length ≤ (Y.prefs none (ps.take (n + d))).length := by
                  intro d
                  induction d with
                  | zero => intro _; exact Nat.le_refl _
                  | succ d ih =>
                    intro hd
                    have h4 := ih (by omega)
                    rw [show n + (d + 1) = n + d + 1 by omega, Y.prefs_take ps (n + d) (by omega), List.length_append]
                    omega
                have := h (ps.length - n) (by omega)
                rwa [show n + (ps.length - n) = ps.length by omega, List.take_length] at this
              exact this _ (by omega)
            unfold Y.listed at h1
            rw [List.length_append] at h1 ⊢
            rw [HPT.out, List.length_append, List.length_append, Y.Prd.refs, List.length_append] at h3
            omega
          have hprec := hpr ps[i] (List.getElem_mem hlt)
          have HLF : Hid (0 < i → ∃ (D0 : Nat) (s0 : List Int) (o0 : Nat), w2.cell? ⟨D, (i - 1) * 5, none⟩ = some (.string (K.str s0)) ∧ w2.cell? ⟨D, (i - 1) * 5 + 1, none⟩ = some (.complex .f64 (Fl.fl (Pl.pos (L.take o0)).1) (Fl.fl (Pl.pos (L.take o0)).2)) ∧ o0 = ps[i - 1].l.o ∧ (Op.floatEq .f64 (Fl.fl (Pl.pos (L.take o0)).1) (Fl.fl (Pl.pos (L.take ps[i].l.o)).1) && Op.floatEq .f64 (Fl.fl (Pl.pos (L.take o0)).2) (Fl.fl (Pl.pos (L.take ps[i].l.o)).2)) = decide (o0 = ps[i].l.o) ∧ (o0 = ps[i].l.o → s0 = ps[i].l.t)) := hide (fun h0 => by
            obtain ⟨D', c1, A', c1', hv', hcell', _⟩ := hop2.at (i - 1) (by omega)
            injection hv' with e1 e2 e3
            injection e1 with e1
            injection e1 with e1
            subst e1
            have h0c := hcell' 0 _ (by omega) rfl
            have h1c := hcell' 1 _ (by omega) rfl
            exact ⟨0, ps[i - 1].l.t, ps[i - 1].l.o, (HBW.out.cell (p := ⟨D, (i - 1) * 5 + 0, none⟩) (block_lt_of_cell h0c)).trans h0c, (HBW.out.cell (p := ⟨D, (i - 1) * 5 + 1, none⟩) (block_lt_of_cell h1c)).trans h1c, rfl, hpl (i - 1) i (by omega) hlt, hpt (i - 1) i (by omega) hlt⟩)
          clear hop2 hpr hpl hpt HOP
          generalize hpp : ps[i] = p at *
          have HP0 := hide hpp
          clear hpp
          obtain ⟨s3, a4, b4, hx, hx1, hx2⟩ := precells_form L p.p
          have k0 : w2.cell? ⟨D, i * 5, none⟩ = some (.string (K.str p.l.t)) := hcell 0 _ (by omega) rfl
          have k1 : w2.cell? ⟨D, i * 5 + 1, none⟩ = some (.complex .f64 (Fl.fl (Pl.pos (L.take p.l.o)).1) (Fl.fl (Pl.pos (L.take p.l.o)).2)) := hcell 1 _ (by omega) rfl
          have k2 : w2.cell? ⟨D, i * 5 + 2, none⟩ = some (.slice A p.r.length c') := hcell 2 _ (by omega) rfl
          have k3 : w2.cell? ⟨D, i * 5 + 3, none⟩ = some (.string s3) := hcell 3 _ (by omega) (by unfold pcells; rw [hx]; rfl)
          have k4 : w2.cell? ⟨D, i * 5 + 4, none⟩ = some (.complex .f64 a4 b4) := hcell 4 _ (by omega) (by unfold pcells; rw [hx]; rfl)
          have HRR := hide (fun (x : World) (h : Below w.heap.size w x) => hrr.below h)
          have HBL := hide hbl
          have HX1 := hide hx1
          have HX2 := hide hx2
          have HPREC := hide hprec
          clear hrr hbl hx hx1 hx2 hcell hprec
          go_upto_region 10 with fail
          obtain ⟨w3, hw3⟩ : ∃ x, x = w2.alloc (.cells #[.string (K.str p.l.t), .complex .f64 (Fl.fl (Pl.pos (L.take p.l.o)).1) (Fl.fl (Pl.pos (L.take p.l.o)).2), .slice A p.r.length c', .string s3, .complex .f64 a4 b4] 44) := ⟨_, rfl⟩
          rw [← hw3]
          have hg3 : w2.grownBy w3 .none := by rw [hw3]; exact only_alloc (World.grownBy.refl _ _) _
          have hb3 : w3.heap[w2.heap.size]? = some (.cells #[.string (K.str p.l.t), .complex .f64 (Fl.fl (Pl.pos (L.take p.l.o)).1) (Fl.fl (Pl.pos (L.take p.l.o)).2), .slice A p.r.length c', .string s3, .complex .f64 a4 b4] 44 (0, 0)) := by rw [hw3]; exact heap_alloc_new w2 _
          obtain ⟨nb, hnb⟩ : ∃ nb : Bool, nb = decide (¬ (0 < i ∧ ps[i - 1].l.o = p.l.o)) := ⟨_, rfl⟩
          have HNI : Hid (i = 0 → nb = true) := hide (fun h => by rw [hnb]; exact decide_eq_true (by omega))
          have HNF : Hid ((nb = false → (if 0 < i ∧ ps[i - 1].l.o = p.l.o then [] else [p.l]) = []) ∧ (nb = true → (if 0 < i ∧ ps[i - 1].l.o = p.l.o then [] else [p.l]) = [p.l])) := hide (by
            refine ⟨fun h => ?_, fun h => ?_⟩
            · rw [hnb] at h; rw [if_pos (Classical.byContradiction fun q => (of_decide_eq_false h) q)]
            · rw [hnb] at h; rw [if_neg (of_decide_eq_true h)])
          have hlf : 0 < i → ∃ (s0 : List Int) (o0 : Nat), w3.cell? ⟨D, (i - 1) * 5, none⟩ = some (.string (K.str s0)) ∧ w3.cell? ⟨D, (i - 1) * 5 + 1, none⟩ = some (.complex .f64 (Fl.fl (Pl.pos (L.take o0)).1) (Fl.fl (Pl.pos (L.take o0)).2)) ∧ decide (¬ o0 = p.l.o) = nb ∧ (Op.floatEq .f64 (Fl.fl (Pl.pos (L.take o0)).1) (Fl.fl (Pl.pos (L.take p.l.o)).1) && Op.floatEq .f64 (Fl.fl (Pl.pos (L.take o0)).2) (Fl.fl (Pl.pos (L.take p.l.o)).2)) = decide (o0 = p.l.o) ∧ (o0 = p.l.o → s0 = p.l.t) := fun h0 => by
            obtain ⟨_, s0, o0, q1, q2, q3, q4, q5⟩ := HLF.out h0
            have hD := block_lt_of_cell q1
            exact ⟨s0, o0, (World.cell?_of_block (hg3.block D hD (by simp))).trans q1, (World.cell?_of_block (hg3.block D hD (by simp))).trans q2, by rw [hnb, ← q3]; congr 1; simp; omega, q4, q5⟩
          clear hnb
          have m0 := cell_of_row w3 _ 0 _ _ _ hb3
          have m1 := cell_of_row w3 _ 1 _ _ _ hb3
          have HB5 := hide hb3
          have HO3 := hide (HO.out.grown hg3 (Other.none _))
          have HB3 : Hid (Below w1.heap.size w1 w3) := hide (HB.out.trans ⟨hg3.os, hg3.tape, hg3.output, hg3.size, fun k hk => hg3.block k (Nat.lt_of_lt_of_le hk HB.out.size) (by simp)⟩)
          have hbs : w1.heap.size ≤ w2.heap.size := HB.out.size
          have e13 : w3.cell? ⟨w.heap.size, 1, none⟩ = some (.slice (some ⟨D, 0, none⟩) ps.length PC) := by
            have := HCL.out w3 HB3.out
            rw [cell_of_row w3 _ 1 _ _ _ this]; rfl
          clear hw3 hg3 hb3 HO HB HLF k0 k1 k2 k3 k4 e0 e1 HBW
          go_cut [47] (fun s47 wx => ∃ n, wx = w3.drewN n ∧ s47 = .bool nb)
          case first =>
            by_cases h0 : i = 0
            · have q0 : ((i : Int) == 0) = true := by rw [h0]; rfl
              have HD0 : Hid (nb = true) := hide (HNI.out h0)
              clear h0 hlf
              go_quiet (fail)
              go_wp2
              go_meet
              case rel => exact ⟨nq, rfl, by rw [HD0.out]⟩
            · have q0 : ((i : Int) == 0) = false := by simpa using h0
              obtain ⟨s0, o0, c5, c6, c7, c8, c9⟩ := hlf (by omega)
              obtain ⟨j, hj⟩ : ∃ j, i - 1 = j := ⟨_, rfl⟩
              have r1 : IntKind.i64.wrap ((i : Int) - 1) = (j : Int) := by rw [IntKind.wrap_i64]; omega
              have r2 : (i : Int) - 1 = (j : Int) := by omega
              have hjl : j < ps.length := by omega
              rw [hj] at c5 c6
              have HDD : Hid (nb = decide (¬ o0 = p.l.o)) := hide c7.symm
              have E := fun w => equal_cb 9998 (Fl.fl (Pl.pos (L.take o0)).1) (Fl.fl (Pl.pos (L.take o0)).2) (Fl.fl (Pl.pos (L.take p.l.o)).1) (Fl.fl (Pl.pos (L.take p.l.o)).2) w
              simp only [c8] at E
              by_cases hoo : o0 = p.l.o
              · have hss := c9 hoo
                rw [decide_eq_true hoo] at E
                rw [decide_eq_false (not_not_intro hoo)] at HDD
                subst hss
                have sb : ((K.str p.l.t).toList == (K.str p.l.t).toList) = true := by simp
                clear c7 c8 c9 hoo hlf h0 hj
                generalize K.str p.l.t = st at *
                generalize Fl.fl (Pl.pos (L.take o0)).1 = X0 at *
                generalize Fl.fl (Pl.pos (L.take o0)).2 = Y0 at *
                generalize Fl.fl (Pl.pos (L.take p.l.o)).1 = X1 at *
                generalize Fl.fl (Pl.pos (L.take p.l.o)).2 = Y1 at *
                go_quiet (fail)
                go_wp2
                go_meet
                case rel => exact ⟨nq, rfl, by rw [HDD.out]⟩
              · rw [decide_eq_false hoo] at E
                rw [decide_eq_true hoo] at HDD
                clear c7 c8 c9 hoo hlf h0 hj
                rcases sb : ((K.str s0).toList == (K.str p.l.t).toList) with _ | _
                all_goals
                  generalize K.str p.l.t = st at *
                  generalize K.str s0 = st0 at *
                  generalize Fl.fl (Pl.pos (L.take o0)).1 = X0 at *
                  generalize Fl.fl (Pl.pos (L.take o0)).2 = Y0 at *
                  generalize Fl.fl (Pl.pos (L.take p.l.o)).1 = X1 at *
                  generalize Fl.fl (Pl.pos (L.take p.l.o)).2 = Y1 at *
                  go_quiet (fail)
                  go_wp2
                  go_meet
                  case rel => exact ⟨nq, rfl, by rw [HDD.out]⟩
          case rest =>
            obtain ⟨nq, rfl, rfl⟩ := hcut
            clear hlf HNI
            clear m0 m1 e13
            obtain ⟨w4, hw4⟩ : ∃ x, x = w3.drewN nq := ⟨_, rfl⟩
            rw [← hw4]
            have HO4 : Hid (OwnR L w4 w1.heap.size (.slice A2 acc.length c2) acc) := hide (by rw [hw4]; exact HO3.out)
            have HB4 : Hid (Below w1.heap.size w1 w4) := hide (by rw [hw4]; exact below_drewN HB3.out nq)
            have hb4 : w4.heap[w2.heap.size]? = some (.cells #[.string (K.str p.l.t), .complex .f64 (Fl.fl (Pl.pos (L.take p.l.o)).1) (Fl.fl (Pl.pos (L.take p.l.o)).2), .slice A p.r.length c', .string s3, .complex .f64 a4 b4] 44 (0, 0)) := by rw [hw4]; exact HB5.out
            clear hw4 HO3 HB3 HB5
            have m0_4 := cell_of_row w4 _ 0 _ _ _ hb4
            have m1_4 := cell_of_row w4 _ 1 _ _ _ hb4
            have m2_4 := cell_of_row w4 _ 2 _ _ _ hb4
            have m3_4 := cell_of_row w4 _ 3 _ _ _ hb4
            have m4_4 := cell_of_row w4 _ 4 _ _ _ hb4
            have HL1 : Hid (acc.length ≤ 1000000) := hide (by have := HBL.out; omega)
            have HL2 : Hid ((acc ++ p.r).length ≤ 1000000) := hide (by have := HBL.out; rw [List.length_append]; omega)
            have HL3 : Hid ((acc ++ [p.l] ++ p.r).length ≤ 1000000) := hide (by have := HBL.out; rw [List.length_append, List.length_append]; simp; omega)
            have HN1 : Hid (acc.length + p.r.length ≤ 1000000) := hide (by have := HBL.out; omega)
            have HN2 : Hid ((acc ++ [p.l]).length + p.r.length ≤ 1000000) := hide (by have := HBL.out; rw [List.length_append]; simp; omega)
            rcases hpp : p.p with _ | t
            · have hs3 := HX1.out hpp
              subst hs3
              clear HX1 HX2
              rcases nb with _ | _
              · have hsel := HNF.out.1 rfl
                have HFIN : Hid (ds.flatMap Y.Dcl.refs ++ Y.prefs none (ps.take (i + 1)) = (acc ++ p.r)) := hide (by rw [HPT.out, hsel, Y.Prd.refs, hpp, ← List.append_assoc, HACC.out]; simp)
                clear hpp hsel
                go_wp2_with (at_builtin; first | (refine apnR_pk rfl (.tmp 53) (.tmp 55) _ rfl Try.underlying35 L base w1 _ acc rfl HO4.out A _ c' _ rfl rfl (HRR.out _ (HB1.out.trans (HB4.out.mono HB1.out.size))) HB4.out HN1.out ?_; intro v5 w5 ho5 hB5 hk5; have HB5 := hide hB5; have HO5 := hide ho5; have hb5 := hk5 _ _ hb4; have m0_5 := cell_of_row w5 _ 0 _ _ _ hb5; have m1_5 := cell_of_row w5 _ 1 _ _ _ hb5; have m2_5 := cell_of_row w5 _ 2 _ _ _ hb5; have m3_5 := cell_of_row w5 _ 3 _ _ _ hb5; have m4_5 := cell_of_row w5 _ 4 _ _ _ hb5; clear ho5 hB5 hk5))
                go_roundw
                case rel => exact ⟨i + 1, by go_num, HLT.out, by rw [HFIN.out]; exact HO5.out, HB5.out⟩
                case measure => have := HLT.out; simp [intOf]; omega
              · have hsel := HNF.out.2 rfl
                have HFIN : Hid (ds.flatMap Y.Dcl.refs ++ Y.prefs none (ps.take (i + 1)) = (acc ++ [p.l] ++ p.r)) := hide (by rw [HPT.out, hsel, Y.Prd.refs, hpp, ← List.append_assoc, HACC.out]; simp)
                clear hpp hsel
                go_wp2_with (at_builtin; first | (refine apR_pk rfl (.tmp 48) (.tmp 51) _ rfl Try.underlying35 L w1 _ acc rfl HO4.out p.l 1 rfl HB4.out HL1.out ?_; intro v5 w5 ho5 hB5 hk5; have HB5 := hide hB5; have HO5 := hide ho5; have hb5 := hk5 _ _ hb4; have m0_5 := cell_of_row w5 _ 0 _ _ _ hb5; have m1_5 := cell_of_row w5 _ 1 _ _ _ hb5; have m2_5 := cell_of_row w5 _ 2 _ _ _ hb5; have m3_5 := cell_of_row w5 _ 3 _ _ _ hb5; have m4_5 := cell_of_row w5 _ 4 _ _ _ hb5; clear ho5 hB5 hk5) | (refine apnR_pk rfl (.tmp 53) (.tmp 55) _ rfl Try.underlying35 L base w1 _ (acc ++ [p.l]) rfl HO5.out A _ c' _ rfl rfl (HRR.out _ (HB1.out.trans (HB5.out.mono HB1.out.size))) HB5.out HN2.out ?_; intro v6 w6 ho6 hB6 hk6; have HB6 := hide hB6; have HO6 := hide ho6; have hb6 := hk6 _ _ hb5; have m0_6 := cell_of_row w6 _ 0 _ _ _ hb6; have m1_6 := cell_of_row w6 _ 1 _ _ _ hb6; have m2_6 := cell_of_row w6 _ 2 _ _ _ hb6; have m3_6 := cell_of_row w6 _ 3 _ _ _ hb6; have m4_6 := cell_of_row w6 _ 4 _ _ _ hb6; clear ho6 hB6 hk6))
                go_roundw
                case rel => exact ⟨i + 1, by go_num, HLT.out, by rw [HFIN.out]; exact HO6.out, HB6.out⟩
                case measure => have := HLT.out; simp [intOf]; omega
            · obtain ⟨hs3, ha4, hb4'⟩ := HX2.out t hpp
              have hne := HPREC.out t hpp
              subst hs3 ha4 hb4'
              have hst : ¬ (K.str t.t).toList = [] := by
                rw [T.str_list]
                intro e
                apply hne
                have := congrArg List.length e
                rw [T.bytesOf_len] at this
                exact List.eq_nil_of_length_eq_zero this
              have hst2 : (K.str t.t).toList.isEmpty = false := by
                rcases hq : (K.str t.t).toList with _ | ⟨a, b⟩
                · exact absurd hq hst
                · rfl
              clear HX1 HX2 hne
              rcases nb with _ | _
              · have hsel := HNF.out.1 rfl
                have HFIN : Hid (ds.flatMap Y.Dcl.refs ++ Y.prefs none (ps.take (i + 1)) = (acc ++ p.r) ++ [t]) := hide (by rw [HPT.out, hsel, Y.Prd.refs, hpp, ← List.append_assoc, HACC.out]; simp)
                clear hpp hsel
                go_wp2_with (at_builtin; first | (refine apnR_pk rfl (.tmp 53) (.tmp 55) _ rfl Try.underlying35 L base w1 _ acc rfl HO4.out A _ c' _ rfl rfl (HRR.out _ (HB1.out.trans (HB4.out.mono HB1.out.size))) HB4.out HN1.out ?_; intro v5 w5 ho5 hB5 hk5; have HB5 := hide hB5; have HO5 := hide ho5; have hb5 := hk5 _ _ hb4; have m0_5 := cell_of_row w5 _ 0 _ _ _ hb5; have m1_5 := cell_of_row w5 _ 1 _ _ _ hb5; have m2_5 := cell_of_row w5 _ 2 _ _ _ hb5; have m3_5 := cell_of_row w5 _ 3 _ _ _ hb5; have m4_5 := cell_of_row w5 _ 4 _ _ _ hb5; clear ho5 hB5 hk5) | (refine apR_pk rfl (.tmp 61) (.tmp 64) _ rfl Try.underlying35 L w1 _ (acc ++ p.r) rfl HO5.out t 1 rfl HB5.out HL2.out ?_; intro v6 w6 ho6 hB6 hk6; have HB6 := hide hB6; have HO6 := hide ho6; clear ho6 hB6 hk6))
                go_roundw
                case rel => exact ⟨i + 1, by go_num, HLT.out, by rw [HFIN.out]; exact HO6.out, HB6.out⟩
                case measure => have := HLT.out; simp [intOf]; omega
              · have hsel := HNF.out.2 rfl
                have HFIN : Hid (ds.flatMap Y.Dcl.refs ++ Y.prefs none (ps.take (i + 1)) = (acc ++ [p.l] ++ p.r) ++ [t]) := hide (by rw [HPT.out, hsel, Y.Prd.refs, hpp, ← List.append_assoc, HACC.out]; simp)
                clear hpp hsel
                go_wp2_with (at_builtin; first | (refine apR_pk rfl (.tmp 48) (.tmp 51) _ rfl Try.underlying35 L w1 _ acc rfl HO4.out p.l 1 rfl HB4.out HL1.out ?_; intro v5 w5 ho5 hB5 hk5; have HB5 := hide hB5; have HO5 := hide ho5; have hb5 := hk5 _ _ hb4; have m0_5 := cell_of_row w5 _ 0 _ _ _ hb5; have m1_5 := cell_of_row w5 _ 1 _ _ _ hb5; have m2_5 := cell_of_row w5 _ 2 _ _ _ hb5; have m3_5 := cell_of_row w5 _ 3 _ _ _ hb5; have m4_5 := cell_of_row w5 _ 4 _ _ _ hb5; clear ho5 hB5 hk5) | (refine apnR_pk rfl (.tmp 53) (.tmp 55) _ rfl Try.underlying35 L base w1 _ (acc ++ [p.l]) rfl HO5.out A _ c' _ rfl rfl (HRR.out _ (HB1.out.trans (HB5.out.mono HB1.out.size))) HB5.out HN2.out ?_; intro v6 w6 ho6 hB6 hk6; have HB6 := hide hB6; have HO6 := hide ho6; have hb6 := hk6 _ _ hb5; have m0_6 := cell_of_row w6 _ 0 _ _ _ hb6; have m1_6 := cell_of_row w6 _ 1 _ _ _ hb6; have m2_6 := cell_of_row w6 _ 2 _ _ _ hb6; have m3_6 := cell_of_row w6 _ 3 _ _ _ hb6; have m4_6 := cell_of_row w6 _ 4 _ _ _ hb6; clear ho6 hB6 hk6) | (refine apR_pk rfl (.tmp 61) (.tmp 64) _ rfl Try.underlying35 L w1 _ (acc ++ [p.l] ++ p.r) rfl HO6.out t 1 rfl HB6.out HL3.out ?_; intro v7 w7 ho7 hB7 hk7; have HB7 := hide hB7; have HO7 := hide ho7; clear ho7 hB7 hk7))
                go_roundw
                case rel => exact ⟨i + 1, by go_num, HLT.out, by rw [HFIN.out]; exact HO7.out, HB7.out⟩
                case measure => have := HLT.out; simp [intOf]; omega
        · obtain rfl : i = ps.length := by omega
          rw [List.take_length] at HACC
          go_wp2
          go_ret
          refine ⟨_, rfl, ?_, HBW.out⟩
          have := HO.out.base_le HB1.out.size
          rw [← HACC.out] at this
          rw [← HACC.out]
          exact this
end Go.Proofs.Ytgmcpkecppfkgaa
