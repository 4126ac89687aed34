/- Contracts of yacc's Same, of one and the same source, over this program. -/
import Derived.Test.YtgmcpkecppfkgaaYaccList
namespace Go.Proofs.Ytgmcpkecppfkgaa
set_option maxRecDepth 100000
open Go.RowKit

theorem float_self (L : List Int) (o : Nat) (ho : o ≤ L.length) (hn : L.length ≤ 4000) : (Op.floatEq .f64 (Fl.fl (Pl.pos (L.take o)).1) (Fl.fl (Pl.pos (L.take o)).1) && Op.floatEq .f64 (Fl.fl (Pl.pos (L.take o)).2) (Fl.fl (Pl.pos (L.take o)).2)) = true := by
  have b := Pl.pos_bd L o ho
  unfold Op.floatEq
  rw [eq_fl _ _ (by omega) (by omega), eq_fl _ _ (by omega) (by omega)]
  simp

set_option maxHeartbeats 2000000 in
theorem equal_refs (L : List Int) (A : Option Addr) (c B : Nat) (xs : List Tok) (w : World) (hr : RdR L w B A xs) (hL : L.length ≤ 4000) (hx : ∀ x ∈ xs, x.o ≤ L.length) (hn : xs.length ≤ 4000) :
    Calls Try.prog 41 #[.slice A xs.length c, .slice A xs.length c] w fun e w' => e = .returned (.bool true) ∧ ∃ n, w' = w.drewN n := by
  go_enter Try.func41, Try.ntmps41
  go_wp2
  go_loopw [13] (fun vi wr => ∃ (i n : Nat), i ≤ xs.length ∧ vi = .int .i64 i ∧ wr = w.drewN n) (fun vi _ => xs.length - (intOf vi).toNat)
  case atStart => exact ⟨0, 0, by omega, rfl, rfl⟩
  case round =>
    obtain ⟨i, n, hi, rfl, rfl⟩ := hrel
    by_cases hlt : i < xs.length
    · obtain ⟨g, rfl, _, hcell⟩ := hr.cell (by omega)
      have k0 : (w.drewN n).cell? ⟨g, i * 2, none⟩ = some (.string (K.str xs[i].t)) := hcell i 0 _ hlt (by omega) rfl
      have k1 : (w.drewN n).cell? ⟨g, i * 2 + 1, none⟩ = some (.complex .f64 (Fl.fl (Pl.pos (L.take xs[i].o)).1) (Fl.fl (Pl.pos (L.take xs[i].o)).2)) := hcell i 1 _ hlt (by omega) rfl
      have E := fun w => equal_cb 9998 (Fl.fl (Pl.pos (L.take xs[i].o)).1) (Fl.fl (Pl.pos (L.take xs[i].o)).2) (Fl.fl (Pl.pos (L.take xs[i].o)).1) (Fl.fl (Pl.pos (L.take xs[i].o)).2) w
      rw [float_self L xs[i].o (hx _ (List.getElem_mem hlt)) hL] at E
      have sb : ((K.str xs[i].t).toList == (K.str xs[i].t).toList) = true := by simp
      obtain ⟨w1, hw1⟩ : ∃ x, x = w.drewN n := ⟨_, rfl⟩
      rw [← hw1] at k0 k1 ⊢
      have HW := hide hw1
      clear hcell hr hx hw1
      generalize K.str xs[i].t = st at *
      generalize Fl.fl (Pl.pos (L.take xs[i].o)).1 = X at *
      generalize Fl.fl (Pl.pos (L.take xs[i].o)).2 = Y at *
      go_wp2
      go_quiet (fail)
      go_wp2
      go_roundw
      case rel => exact ⟨i + 1, n + nq, by omega, by go_num, by rw [HW.out]; simp [World.drewN, Nat.add_assoc]⟩
      case measure => simp [intOf]; omega
    · obtain rfl : i = xs.length := by omega
      clear hr hx
      go_wp2
      go_ret
      exact ⟨rfl, n, rfl⟩

theorem below_drewE {w w' : World} (h : ∃ n, w' = w.drewN n) : Below w.heap.size w w' := by
  obtain ⟨n, rfl⟩ := h
  exact below_drewN (Below.refl _ _) n

set_option maxHeartbeats 2000000 in
theorem same_decl (L : List Int) (k : Int) (A : Option Addr) (c B : Nat) (xs : List Tok) (w : World) (hr : RdR L w B A xs) (hL : L.length ≤ 4000) (hx : ∀ x ∈ xs, x.o ≤ L.length) (hn : xs.length ≤ 4000) :
    Calls Try.prog 19 #[.agg #[.int .i64 k, .slice A xs.length c], .agg #[.int .i64 k, .slice A xs.length c]] w fun e w' => e = .returned (.bool true) ∧ Below w.heap.size w w' := by
  have HB0 := hide (fun o => ((Below.refl w.heap.size w).alloc (Nat.le_refl _) o))
  have HE := hide (fun (x : World) (h : Below w.heap.size w x) => equal_refs L A c B xs x (hr.below h) hL hx hn)
  clear hr hx
  go_enter Try.func19, Try.ntmps19
  go_wp2_with fail
  refine (HE.out _ ((HB0.out _).alloc (by simp) _)).mono ?_; rintro _ w2 ⟨rfl, hd⟩
  have HD := hide ((((HB0.out _).alloc (by simp) _)).trans ((below_drewE hd).mono (by simp; omega)))
  clear hd
  go_wp2
  go_ret
  exact ⟨rfl, HD.out⟩

set_option maxHeartbeats 2000000 in
theorem same_prod (L : List Int) (p : Y.Prd) (A : Option Addr) (c B : Nat) (w : World) (hr : RdR L w B A p.r) (hL : L.length ≤ 4000) (hx : ∀ x ∈ p.r, x.o ≤ L.length) (hn : p.r.length ≤ 4000) (hl : p.l.o ≤ L.length) (hp : ∀ t, p.p = some t → t.o ≤ L.length) :
    Calls Try.prog 21 #[.agg (pcells L p A c).toArray, .agg (pcells L p A c).toArray] w fun e w' => e = .returned (.bool true) ∧ Below w.heap.size w w' := by
  have HB0 := hide (fun o => ((Below.refl w.heap.size w).alloc (Nat.le_refl _) o))
  have HE := hide (fun (x : World) (h : Below w.heap.size w x) => equal_refs L A c B p.r x (hr.below h) hL hx hn)
  have E := fun w => equal_cb 9998 (Fl.fl (Pl.pos (L.take p.l.o)).1) (Fl.fl (Pl.pos (L.take p.l.o)).2) (Fl.fl (Pl.pos (L.take p.l.o)).1) (Fl.fl (Pl.pos (L.take p.l.o)).2) w
  rw [float_self L p.l.o hl hL] at E
  obtain ⟨s3, a4, b4, h1, h2, h3⟩ := precells_form L p.p
  have hfl : (Op.floatEq .f64 a4 a4 && Op.floatEq .f64 b4 b4) = true := by
    rcases hq : p.p with _ | t
    · rw [hq] at h1
      injection h1 with _ h1
      injection h1 with h1 _
      injection h1 with _ e1 e2
      subst e1 e2
      decide +kernel
    · obtain ⟨_, rfl, rfl⟩ := h3 t hq
      exact float_self L t.o (hp t hq) hL
  have E2 := fun w => equal_cb 9998 a4 b4 a4 b4 w
  rw [hfl] at E2
  have hpc : pcells L p A c = [.string (K.str p.l.t), .complex .f64 (Fl.fl (Pl.pos (L.take p.l.o)).1) (Fl.fl (Pl.pos (L.take p.l.o)).2), .slice A p.r.length c, .string s3, .complex .f64 a4 b4] := by unfold pcells; rw [h1]; rfl
  rw [hpc]
  have sb : ((K.str p.l.t).toList == (K.str p.l.t).toList) = true := by simp
  have sb2 : (s3.toList == s3.toList) = true := by simp
  clear hr hx h1 h2 h3 hfl hpc
  generalize K.str p.l.t = st at *
  generalize Fl.fl (Pl.pos (L.take p.l.o)).1 = X at *
  generalize Fl.fl (Pl.pos (L.take p.l.o)).2 = Y0 at *
  go_enter Try.func21, Try.ntmps21
  go_wp2_with fail
  refine (HE.out _ ((HB0.out _).alloc (by simp) _)).mono ?_; rintro _ w2 ⟨rfl, hd⟩
  have HD := hide ((((HB0.out _).alloc (by simp) _)).trans ((below_drewE hd).mono (by simp; omega)))
  clear hd
  go_wp2
  go_ret
  exact ⟨rfl, HD.out⟩

set_option maxHeartbeats 4000000 in
theorem eqf_decl (L : List Int) (v : Value) (ds : List Y.Dcl) (w : World) (base : Nat) (ho : OwnD L w base v ds) (hL : L.length ≤ 4000) (hn : ds.length ≤ 4000) (hx : ∀ d ∈ ds, d.ns.length ≤ 4000 ∧ ∀ x ∈ d.ns, x.o ≤ L.length) :
    Calls Try.prog 18 #[v, v, .func (Fn.func 19) #[] #[]] w fun e w' => e = .returned (.bool true) ∧ Below w.heap.size w w' := by
  have HO := hide ho
  have HX := hide hx
  have HB0 := hide (Below.refl w.heap.size w)
  have SC := fun a w m X Y => show (store a (.complex .f64 X Y) m).run Try.prog w = stored Try.prog w a (.complex .f64 X Y) m from run_store _ w a _ m rfl
  obtain ⟨A0, c0, rfl, _, _⟩ := ho.form
  clear ho hx
  go_enter Try.func18, Try.ntmps18
  go_wp2
  go_loopw [17] (fun vi wr => ∃ (i : Nat), i ≤ ds.length ∧ vi = .int .i64 i ∧ Below w.heap.size w wr) (fun vi _ => ds.length - (intOf vi).toNat)
  case atStart => exact ⟨0, by omega, rfl, HB0.out⟩
  case round =>
    obtain ⟨i, hi, rfl, hb⟩ := hrel
    have HB := hide hb
    by_cases hlt : i < ds.length
    · obtain ⟨D, c, A, c', hv, q0, q1, hrr⟩ := HO.out.at i hlt
      injection hv with hv1 hv2 hv3
      subst hv1 hv3
      have k0 : wr.cell? ⟨D, i * 2, none⟩ = some (.int .i64 ds[i].k) := (hb.cell (p := ⟨D, i * 2, none⟩) (block_lt_of_cell q0)).trans q0
      have k1 : wr.cell? ⟨D, i * 2 + 1, none⟩ = some (.slice A ds[i].ns.length c') := (hb.cell (p := ⟨D, i * 2 + 1, none⟩) (block_lt_of_cell q1)).trans q1
      clear q0 q1
      obtain ⟨x1, x2⟩ := HX.out ds[i] (List.getElem_mem hlt)
      have hDl : D < wr.heap.size := block_lt_of_cell k0
      have HS := hide (fun (x : World) (h : Below w.heap.size w x) => same_decl L ds[i].k A c' base ds[i].ns x (hrr.below h) hL x2 x1)
      have HBA := hide (fun (o1 o2 : Obj) => (hb.alloc hb.size o1).alloc (by have := hb.size; simp; omega) o2)
      have HLT := hide hlt
      clear hb hrr
      generalize ds[i] = d at *
      go_wp2_with fail
      refine (HS.out _ (HBA.out _ _)).mono ?_; rintro _ w2 ⟨rfl, hb2⟩
      have HB2 := hide ((HBA.out _ _).trans (hb2.mono (HBA.out _ _).size))
      clear hb2
      go_wp2
      go_roundw
      case rel => exact ⟨i + 1, HLT.out, by go_num, HB2.out⟩
      case measure => have := HLT.out; simp [intOf]; omega
    · obtain rfl : i = ds.length := by omega
      clear hb
      go_wp2
      go_ret
      exact ⟨rfl, HB.out⟩

set_option maxHeartbeats 4000000 in
theorem eqf_prod (L : List Int) (v : Value) (ds : List Y.Prd) (w : World) (base : Nat) (ho : OwnP L w base v ds) (hL : L.length ≤ 4000) (hn : ds.length ≤ 4000) (hx : ∀ d ∈ ds, d.r.length ≤ 4000 ∧ (∀ x ∈ d.r, x.o ≤ L.length) ∧ d.l.o ≤ L.length ∧ ∀ t, d.p = some t → t.o ≤ L.length) :
    Calls Try.prog 20 #[v, v, .func (Fn.func 21) #[] #[]] w fun e w' => e = .returned (.bool true) ∧ Below w.heap.size w w' := by
  have HO := hide ho
  have HX := hide hx
  have HB0 := hide (Below.refl w.heap.size w)
  have SC := fun a w m X Y => show (store a (.complex .f64 X Y) m).run Try.prog w = stored Try.prog w a (.complex .f64 X Y) m from run_store _ w a _ m rfl
  obtain ⟨A0, c0, rfl, _, _⟩ := ho.form
  clear ho hx
  go_enter Try.func20, Try.ntmps20
  go_wp2
  go_loopw [17] (fun vi wr => ∃ (i : Nat), i ≤ ds.length ∧ vi = .int .i64 i ∧ Below w.heap.size w wr) (fun vi _ => ds.length - (intOf vi).toNat)
  case atStart => exact ⟨0, by omega, rfl, HB0.out⟩
  case round =>
    obtain ⟨i, hi, rfl, hb⟩ := hrel
    have HB := hide hb
    by_cases hlt : i < ds.length
    · obtain ⟨D, c, A, c', hv, hcell, hrr⟩ := HO.out.at i hlt
      injection hv with hv1 hv2 hv3
      subst hv1 hv3
      obtain ⟨s3, a4, b4, h1, _, _⟩ := precells_form L ds[i].p
      have hpc : pcells L ds[i] A c' = [.string (K.str ds[i].l.t), .complex .f64 (Fl.fl (Pl.pos (L.take ds[i].l.o)).1) (Fl.fl (Pl.pos (L.take ds[i].l.o)).2), .slice A ds[i].r.length c', .string s3, .complex .f64 a4 b4] := by unfold pcells; rw [h1]; rfl
      have hk : ∀ j u, j < 5 → (pcells L ds[i] A c')[j]? = some u → wr.cell? ⟨D, i * 5 + j, none⟩ = some u := fun j u hj hu => by
        have h := hcell j u hj hu
        exact (hb.cell (p := ⟨D, i * 5 + j, none⟩) (block_lt_of_cell h)).trans h
      have k0 : wr.cell? ⟨D, i * 5, none⟩ = some (.string (K.str ds[i].l.t)) := hk 0 _ (by omega) (by rw [hpc]; rfl)
      have k1 : wr.cell? ⟨D, i * 5 + 1, none⟩ = some (.complex .f64 (Fl.fl (Pl.pos (L.take ds[i].l.o)).1) (Fl.fl (Pl.pos (L.take ds[i].l.o)).2)) := hk 1 _ (by omega) (by rw [hpc]; rfl)
      have k2 : wr.cell? ⟨D, i * 5 + 2, none⟩ = some (.slice A ds[i].r.length c') := hk 2 _ (by omega) (by rw [hpc]; rfl)
      have k3 : wr.cell? ⟨D, i * 5 + 3, none⟩ = some (.string s3) := hk 3 _ (by omega) (by rw [hpc]; rfl)
      have k4 : wr.cell? ⟨D, i * 5 + 4, none⟩ = some (.complex .f64 a4 b4) := hk 4 _ (by omega) (by rw [hpc]; rfl)
      clear hk hcell h1
      obtain ⟨x1, x2, x3, x4⟩ := HX.out ds[i] (List.getElem_mem hlt)
      have HSP := fun (x : World) (h : Below w.heap.size w x) => same_prod L ds[i] A c' base x (hrr.below h) hL x2 x1 x3 x4
      rw [hpc] at HSP
      have hDl : D < wr.heap.size := block_lt_of_cell k0
      have HS := hide (fun (x : World) (h : Below w.heap.size w x) => HSP x h)
      have HBA := hide (fun (o1 o2 : Obj) => (hb.alloc hb.size o1).alloc (by have := hb.size; simp; omega) o2)
      have HLT := hide hlt
      clear hb hrr
      clear HSP hpc
      generalize K.str ds[i].l.t = st at *
      generalize Fl.fl (Pl.pos (L.take ds[i].l.o)).1 = X at *
      generalize Fl.fl (Pl.pos (L.take ds[i].l.o)).2 = Y0 at *
      generalize ds[i].r.length = rn at *
      go_wp2_with fail
      refine (HS.out _ (HBA.out _ _)).mono ?_; rintro _ w2 ⟨rfl, hb2⟩
      have HB2 := hide ((HBA.out _ _).trans (hb2.mono (HBA.out _ _).size))
      clear hb2
      go_wp2
      go_roundw
      case rel => exact ⟨i + 1, HLT.out, by go_num, HB2.out⟩
      case measure => have := HLT.out; simp [intOf]; omega
    · obtain rfl : i = ds.length := by omega
      clear hb
      go_wp2
      go_ret
      exact ⟨rfl, HB.out⟩

set_option maxHeartbeats 2000000 in
theorem same_any (L : List Int) (dv pv : Value) (ds : List Y.Dcl) (ps : List Y.Prd) (w : World) (base : Nat) (hod : OwnD L w base dv ds) (hop : OwnP L w base pv ps) (hL : L.length ≤ 4000) (hds : ds.length ≤ 4000) (hps : ps.length ≤ 4000) (hxd : ∀ d ∈ ds, d.ns.length ≤ 4000 ∧ ∀ x ∈ d.ns, x.o ≤ L.length) (hxp : ∀ d ∈ ps, d.r.length ≤ 4000 ∧ (∀ x ∈ d.r, x.o ≤ L.length) ∧ d.l.o ≤ L.length ∧ ∀ t, d.p = some t → t.o ≤ L.length) :
    Calls Try.prog 9 #[.agg #[dv, pv], .agg #[dv, pv]] w fun e w' => e = .returned (.bool true) ∧ Below w.heap.size w w' := by
  have HB0 := hide (fun (o1 o2 : Obj) => ((Below.refl w.heap.size w).alloc (Nat.le_refl _) o1).alloc (by simp) o2)
  have HD := hide (fun (x : World) (h : Below w.heap.size w x) => eqf_decl L dv ds x base (hod.grown (only_below h .none) (Away.none _ _)) hL hds hxd)
  have HP := hide (fun (x : World) (h : Below w.heap.size w x) => eqf_prod L pv ps x base (hop.grown (only_below h .none) (Away.none _ _)) hL hps hxp)
  obtain ⟨DA, DC, rfl, _, _⟩ := hod.form
  obtain ⟨PA', PC, rfl, _, _⟩ := hop.form
  clear hod hop
  go_enter Try.func9, Try.ntmps9
  go_wp2_with fail
  obtain ⟨w1, hw1⟩ : ∃ x, x = (w.alloc (.cells #[.slice DA ds.length DC, .slice PA' ps.length PC] 27)).alloc (.cells #[.slice DA ds.length DC, .slice PA' ps.length PC] 27) := ⟨_, rfl⟩
  rw [← hw1]
  have hB1 : Below w.heap.size w w1 := by rw [hw1]; exact HB0.out _ _
  have h1 : w1.heap[w.heap.size]? = some (.cells #[.slice DA ds.length DC, .slice PA' ps.length PC] 27 (0, 0)) := by rw [hw1, Below.heap_alloc _ _ _ (by simp)]; exact heap_alloc_new w _
  have h2 : w1.heap[w.heap.size + 1]? = some (.cells #[.slice DA ds.length DC, .slice PA' ps.length PC] 27 (0, 0)) := by
    rw [hw1]
    have := heap_alloc_new (w.alloc (.cells #[.slice DA ds.length DC, .slice PA' ps.length PC] 27)) (.cells #[.slice DA ds.length DC, .slice PA' ps.length PC] 27)
    simpa using this
  clear hw1
  refine (HD.out _ hB1).mono ?_; rintro _ w2 ⟨rfl, hb2⟩
  have HB2 := hide (hB1.trans (hb2.mono hB1.size))
  have g1 := (hb2.block _ (Array.getElem?_eq_some_iff.1 h1).1).trans h1
  have g2 := (hb2.block _ (Array.getElem?_eq_some_iff.1 h2).1).trans h2
  have e1 := cell_of_row w2 _ 1 _ _ _ g1
  have e2 := cell_of_row w2 _ 1 _ _ _ g2
  clear hb2 h1 h2 g1 g2 hB1
  go_wp2_with fail
  refine (HP.out _ HB2.out).mono ?_; rintro _ w3 ⟨rfl, hb3⟩
  have HB3 := hide (HB2.out.trans (hb3.mono HB2.out.size))
  clear hb3
  go_wp2
  go_ret
  exact ⟨rfl, HB3.out⟩
end Go.Proofs.Ytgmcpkecppfkgaa
