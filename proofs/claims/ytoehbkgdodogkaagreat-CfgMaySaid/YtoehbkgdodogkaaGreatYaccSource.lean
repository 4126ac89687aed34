/- The contract of the reader's source, over this program. Written by gen_source.py. -/
import Derived.Test.YtoehbkgdodogkaaGreatYaccDecl
namespace Go.Proofs.YtoehbkgdodogkaaGreat
set_option maxRecDepth 100000
open Go.RowKit

namespace Y
theorem decl_len {ts r : List Tok} {d : Dcl} (h : decl ts = .ok d r) : r.length < ts.length := by
  unfold decl at h
  obtain ⟨t, m, h1, h2⟩ := bind_eq_ok h
  have e1 := congrArg List.length (take_ok h1).1
  simp at e1
  split at h2
  · obtain ⟨u, m2, h3, h4⟩ := bind_eq_ok h2
    injection h4 with _ h5
    subst h5
    have e2 := congrArg List.length (take_ok h3).1
    simp at e2
    omega
  · obtain ⟨u, m2, h3, h4⟩ := bind_eq_ok h2
    injection h4 with _ h5
    subst h5
    have e2 := congrArg List.length (take_ok h3).1
    have e3 := drop_len isRef m2
    simp at e2
    omega
theorem alts_len (left : Tok) : ∀ (f : Nat) (acc : List Prd) (ts : List Tok) (ps : List Prd) (r : List Tok), alts f left acc ts = .ok ps r → ps.length + r.length ≤ acc.length + ts.length
  | 0, acc, ts, ps, r, h => by injection h with h1 h2; subst h1 h2; exact Nat.le_refl _
  | f + 1, acc, ts, ps, r, h => by
    rw [alts] at h
    obtain ⟨p, m, h1, h2⟩ := bind_eq_ok h
    obtain ⟨t, m2, h3, h4⟩ := bind_eq_ok h2
    have e1 := rule_len h1
    have e2 := congrArg List.length (take_ok h3).1
    simp at e2
    split at h4
    · have := alts_len left f _ _ _ _ h4
      simp at this
      omega
    · injection h4 with h5 h6
      subst h5 h6
      simp
      omega
theorem alts_rest (left : Tok) : ∀ (f : Nat) (acc : List Prd) (ts : List Tok) (ps : List Prd) (r : List Tok), alts f left acc ts = .ok ps r → r.length ≤ ts.length
  | 0, acc, ts, ps, r, h => by injection h with h1 h2; subst h2; exact Nat.le_refl _
  | f + 1, acc, ts, ps, r, h => by
    rw [alts] at h
    obtain ⟨p, m, h1, h2⟩ := bind_eq_ok h
    obtain ⟨t, m2, h3, h4⟩ := bind_eq_ok h2
    have e1 := rule_len h1
    have e2 := congrArg List.length (take_ok h3).1
    simp at e2
    split at h4
    · have := alts_rest left f _ _ _ _ h4
      omega
    · injection h4 with h5 h6
      subst h6
      omega
theorem group_rest {acc ps : List Prd} {ts r : List Tok} (h : group acc ts = .ok ps r) : r.length < ts.length := by
  unfold group at h
  obtain ⟨t, m, h1, h2⟩ := bind_eq_ok h
  obtain ⟨u, m2, h3, h4⟩ := bind_eq_ok h2
  have e1 := congrArg List.length (take_ok h1).1
  have e2 := congrArg List.length (take_ok h3).1
  have e3 := alts_rest _ _ _ _ _ _ h4
  simp at e1 e2
  omega
theorem group_len {acc ps : List Prd} {ts r : List Tok} (h : group acc ts = .ok ps r) : ps.length + r.length < acc.length + ts.length := by
  unfold group at h
  obtain ⟨t, m, h1, h2⟩ := bind_eq_ok h
  obtain ⟨u, m2, h3, h4⟩ := bind_eq_ok h2
  have e1 := congrArg List.length (take_ok h1).1
  have e2 := congrArg List.length (take_ok h3).1
  have e3 := alts_len _ _ _ _ _ _ h4
  simp at e1 e2
  omega
end Y

/-- A world's first blocks. -/
def cutW (w : World) (n : Nat) : World := { w with heap := w.heap.extract 0 n }
theorem cutW_size (w : World) (n : Nat) (h : n ≤ w.heap.size) : (cutW w n).heap.size = n := by simp [cutW]; omega
theorem cutW_at (w : World) (n k : Nat) (h : k < n) : (cutW w n).heap[k]? = w.heap[k]? := by
  unfold cutW
  simp only
  rw [Array.getElem?_extract]
  simp
  intro h2
  omega
theorem cutW_grown (w : World) (n : Nat) (h : n ≤ w.heap.size) (row : Option Nat) : (cutW w n).grownBy w row :=
  ⟨rfl, rfl, rfl, by rw [cutW_size w n h]; exact h, fun k hk _ => by rw [cutW_size w n h] at hk; exact (cutW_at w n k hk).symm⟩
theorem cutW_step {w w' : World} {n : Nat} {row : Option Nat} (hn : n ≤ w.heap.size) (h : (cutW w n).grownBy w' row) : (cutW w n).grownBy (cutW w' n) row := by
  have hs := h.size
  rw [cutW_size w n hn] at hs
  refine ⟨h.os, h.tape, h.output, by rw [cutW_size w n hn, cutW_size w' n hs]; exact Nat.le_refl _, fun k hk hne => ?_⟩
  have hk' := hk
  rw [cutW_size w n hn] at hk'
  rw [cutW_at w' n k hk']
  exact h.block k hk hne
theorem cutW_mono {w w' : World} {n : Nat} {row : Option Nat} (hn : n ≤ w.heap.size) (h : w.grownBy w' row) : (cutW w n).grownBy (cutW w' n) row := by
  have hs := Nat.le_trans hn h.size
  refine ⟨h.os, h.tape, h.output, by rw [cutW_size w n hn, cutW_size w' n hs]; exact Nat.le_refl _, fun k hk hne => ?_⟩
  rw [cutW_size w n hn] at hk
  rw [cutW_at w' n k hk, cutW_at w n k hk]
  exact h.block k (by omega) hne
theorem cutW_set (w : World) (n g i : Nat) (u : Value) (hn : n ≤ w.heap.size) : (cutW w n).grownBy (cutW (w.setCell ⟨g, i, none⟩ u) n) (some g) := cutW_mono hn (only_set (World.grownBy.refl _ _) i u)
theorem cutW_from {w0 w : World} {n : Nat} {row : Option Nat} (h : w0.grownBy w row) (h1 : w0.heap.size ≤ n) (h2 : n ≤ w.heap.size) : w0.grownBy (cutW w n) row :=
  ⟨h.os, h.tape, h.output, by rw [cutW_size w n h2]; exact h1, fun k hk hne => by rw [cutW_at w n k (by omega)]; exact h.block k hk hne⟩
theorem Rdr.cut {L : List Int} {B R px py n : Nat} {w : World} {ts : List Tok} (h : Rdr L B R px py w ts) (hn : R < n) : Rdr L B R px py (cutW w n) ts := by
  obtain ⟨A, c, hh, h1, h2, h3, h4⟩ := h
  exact ⟨A, c, (cutW_at w n R hn).trans hh, h1, h2, h3.keep (fun g o hg => World.cell?_of_block (cutW_at w n g (by omega))), h4⟩
theorem own_ne {w : World} {base : Nat} {v : Value} {n size g : Nat} {e t : TypeId} {xs : List Value} {cs : Array Value} (h : w.ownsRow base e size v n xs) (hb : w.heap[g]? = some (.cells cs t (0, 0))) (he : e ≠ t) : v.ownBlock ≠ some g := by
  intro hk
  rcases h.2 with ⟨rfl, _⟩ | ⟨g', cap, cur', rfl, _, hg, _⟩
  · cases hk
  · injection hk with hk
    have hk' : g' = g := hk
    subst hk'
    rw [hg] at hb
    injection hb with e1
    injection e1 with _ e2
    exact he e2
theorem own_keep {w w' : World} {base : Nat} {v : Value} {n size g : Nat} {e t : TypeId} {xs : List Value} {cs : Array Value} (h : w.ownsRow base e size v n xs) (hb : w.heap[g]? = some (.cells cs t (0, 0))) (he : e ≠ t) (hg : w.grownBy w' v.ownBlock) : w'.heap[g]? = some (.cells cs t (0, 0)) :=
  (hg.block g (Array.getElem?_eq_some_iff.1 hb).1 (fun e' => own_ne h hb he e'.symm)).trans hb

/-- append of one declaration, met as one operation. -/
theorem apD_wp {w : World} {o : Oper} {a : Act} {K : Act → World → Prop} {Q : Exit → Act → World → Prop}
    (s x : Operand) (t : TypeId) (ho : o.op = .call { callee := .builtin .append, args := #[s, x], argTypes := #[t, t] }) (ht : Tryz.prog.underlying t = some (.slice 99))
    (L : List Int) (base : Nat) (v : Value) (ds : List Y.Dcl) (hs : a.eval s = v) (hown : OwnD L w base v ds) (g c : Nat) (d : Y.Dcl) (A : Option Addr) (dc : Nat) (hx : a.eval x = .slice (some ⟨g, 0, none⟩) 1 c) (hz : ∀ j u, (dcells d A dc)[j]? = some u → w.cell? ⟨g, j, none⟩ = some u) (hr : RdR L w base A d.ns)
    (hlen : ds.length ≤ 1000000) (hbase : base ≤ w.heap.size)
    (hK : ∀ v' w', OwnD L w' base v' (ds ++ [d]) → w.grownBy w' v.ownBlock → K (a.put o.dst v') w') :
    o.wp Tryz.prog a w K Q := by
  obtain ⟨i, hi, hz0, hz1, hz2⟩ := info_parts infoD
  obtain ⟨qs, hq1, hq2, hq3⟩ := hown
  refine wp_append_own w s x t ho base 99 i _ 2 32 ht hi hz0 hz1 hz2 rfl (by decide) v ds.length (dall qs) hs hq2 ⟨g, 0, none⟩ 1 c (dcells d A dc) hx rfl ?_ (fun u hu => by simp [dcells] at hu; rcases hu with rfl | rfl <;> rfl) (by unfold maxLen; omega) (by omega) hbase fun v' w' h1 h2 _ => hK v' w' ?_ h2
  · intro j u hj
    rw [addZ, Nat.zero_add]
    exact hz j u hj
  · have ho := own_other hq2 (by decide)
    refine ⟨qs ++ [(d, A, dc)], by rw [List.map_append, hq1]; rfl, ?_, fun q hq => ?_⟩
    · rw [List.length_append]
      unfold dall
      rw [List.flatMap_append, List.flatMap_singleton]
      exact h1
    · rcases List.mem_append.1 hq with h | h
      · exact (hq3 q h).grown h2 ho
      · rw [List.mem_singleton] at h
        subst h
        exact hr.grown h2 ho

/-- A source that is answered. -/
def VSrc (L : List Int) (base : Nat) (s : List Y.Dcl × List Y.Prd) (v : Value) (w : World) : Prop := ∃ dv pv, v = .agg #[dv, pv] ∧ OwnD L w base dv s.1 ∧ OwnP L w base pv s.2
/-- The two blocks of a source: the answer's, and the one that grows. -/
def Blk (w0 : World) (dv pv : Value) (w : World) : Prop := w.heap[w0.heap.size]? = some (.cells #[.slice none 0 0, .slice none 0 0] 57 (0, 0)) ∧ w.heap[w0.heap.size + 1]? = some (.cells #[dv, pv] 57 (0, 0))
theorem Blk.grown {w0 w w' : World} {dv pv : Value} {R : Nat} (h : Blk w0 dv pv w) (hg : w.grownBy w' (some R)) (hR : R < w0.heap.size) : Blk w0 dv pv w' := ⟨block_at hg h.1 (by omega), block_at hg h.2 (by omega)⟩
theorem Blk.own {w0 w w' : World} {dv pv v : Value} {base n size : Nat} {e : TypeId} {xs : List Value} (h : Blk w0 dv pv w) (ho : w.ownsRow base e size v n xs) (he : e ≠ 57) (hg : w.grownBy w' v.ownBlock) : Blk w0 dv pv w' := ⟨own_keep ho h.1 he hg, own_keep ho h.2 he hg⟩
theorem Blk.set0 {w0 w : World} {dv pv : Value} (h : Blk w0 dv pv w) (u : Value) : Blk w0 u pv (w.setCell ⟨w0.heap.size + 1, 0, none⟩ u) :=
  ⟨(Below.heap_setCell w ⟨w0.heap.size + 1, 0, none⟩ u w0.heap.size (by simp only; omega)).trans h.1, heap_setCell_same w _ 0 _ _ u h.2⟩
theorem Blk.set1 {w0 w : World} {dv pv : Value} (h : Blk w0 dv pv w) (u : Value) : Blk w0 dv u (w.setCell ⟨w0.heap.size + 1, 1, none⟩ u) :=
  ⟨(Below.heap_setCell w ⟨w0.heap.size + 1, 1, none⟩ u w0.heap.size (by simp only; omega)).trans h.1, heap_setCell_same w _ 1 _ _ u h.2⟩
theorem Blk.away {w0 w : World} {dv pv v : Value} {base n size : Nat} {e : TypeId} {xs : List Value} (h : Blk w0 dv pv w) (ho : w.ownsRow base e size v n xs) (he : e ≠ 57) : Away w v (some (w0.heap.size + 1)) := ⟨other_of h.2 (by decide), .inr (own_ne ho h.2 he)⟩
theorem Blk.cut {w0 w : World} {dv pv : Value} {n : Nat} (h : Blk w0 dv pv w) (hn : w0.heap.size + 1 < n) : Blk w0 dv pv (cutW w n) := ⟨(cutW_at w n _ (by omega)).trans h.1, (cutW_at w n _ hn).trans h.2⟩
theorem Blk.setr {w0 w : World} {dv pv : Value} (h : Blk w0 dv pv w) (u v : Value) : ((w.setCell ⟨w0.heap.size, 0, none⟩ u).setCell ⟨w0.heap.size, 1, none⟩ v).heap[w0.heap.size]? = some (.cells #[u, v] 57 (0, 0)) := store2 h.1 u v
theorem OwnP.less {L : List Int} {w : World} {base base' : Nat} {v : Value} {ps : List Y.Prd} (h : OwnP L w base v ps) (hb : base' ≤ base) : OwnP L w base' v ps := by
  obtain ⟨qs, h1, h2, h3⟩ := h
  refine ⟨qs, h1, ⟨h2.1, ?_⟩, fun q hq => (h3 q hq).less hb⟩
  rcases h2.2 with h0 | ⟨g, cap, cur, e, hb1, hr⟩
  · exact .inl h0
  · exact .inr ⟨g, cap, cur, e, by omega, hr⟩
/-- How far the groups are read. -/
def QAt (L : List Int) (B R px py : Nat) (w0 : World) (PB : Nat) (ds : List Y.Dcl) (dv : Value) (GS : Y.Res (List Y.Prd)) (f : Nat) (acc : List Y.Prd) (rest : List Tok) (pv : Value) (w : World) : Prop :=
  w0.grownBy w (some R) ∧ Rdr L B R px py w rest ∧ OwnD L (cutW w PB) w0.heap.size dv ds ∧ OwnP L w PB pv acc ∧ Blk w0 dv pv w ∧ PB ≤ w.heap.size ∧ acc.length + rest.length ≤ 4000 ∧ rest.length < f ∧ Y.groups f acc rest = GS
theorem groups_end (f : Nat) (acc : List Y.Prd) (ts : List Tok) (h : ts.length = 0 ∨ Y.is [9] ts = true) : Y.groups (f + 1) acc ts = .ok acc ts := by
  rw [Y.groups, if_neg]
  rintro ⟨h1, h2⟩
  rcases h with h | h
  · exact h1 h
  · rw [h] at h2; cases h2
theorem groups_on (f : Nat) (acc : List Y.Prd) (ts : List Tok) (h : ts.length ≠ 0) (h2 : Y.is [9] ts = false) : Y.groups (f + 1) acc ts = (Y.group acc ts).bind fun ps r => Y.groups f ps r := by rw [Y.groups, if_pos ⟨h, h2⟩]

/-- How far the declarations are read. -/
def DAt (L : List Int) (B R px py : Nat) (ts : List Tok) (w0 : World) (f : Nat) (acc : List Y.Dcl) (rest : List Tok) (dv : Value) (w : World) : Prop :=
  w0.grownBy w (some R) ∧ Rdr L B R px py w rest ∧ OwnD L w w0.heap.size dv acc ∧ Blk w0 dv (.slice none 0 0) w ∧ acc.length + rest.length ≤ ts.length ∧ rest.length < f ∧ Y.decls f acc rest = Y.decls (ts.length + 1) [] ts
def declLen (n : Nat) (w : World) : Nat := match w.cell? ⟨n, 0, none⟩ with | some (.slice _ k _) => k | _ => 0
theorem Rdr.len {L : List Int} {B R px py : Nat} {w : World} {ts : List Tok} (h : Rdr L B R px py w ts) : declLen R w = ts.length := by
  obtain ⟨A, c, h0, _⟩ := h.cell0
  unfold declLen
  rw [h0]

set_option maxHeartbeats 8000000 in
theorem source_any (L : List Int) (B R px py : Nat) (ts : List Tok) (w : World) (hr : Rdr L B R px py w ts) :
    Calls Tryz.prog 62 #[.pointer (some ⟨R, 0, none⟩)] w (Does L B R px py w (VSrc L w.heap.size) (Y.source ts)) := by
  have HR := hide hr
  have hR := hr.lt
  have hts : ts.length ≤ 4000 := by obtain ⟨_, _, _, _, h, _⟩ := hr; exact h
  have HS : Hid (Y.source ts = (Y.decls (ts.length + 1) [] ts).bind fun ds r => (Y.take [9] r).bind fun _ r => (Y.group [] r).bind fun ps r => (Y.groups (r.length + 1) ps r).bind fun ps r => (Y.tail r).bind fun _ r => .ok (ds, ps) r) := hide rfl
  clear hr
  generalize Y.source ts = RES at *
  go_enter Tryz.func62, Tryz.ntmps62
  go_wp2
  have HB0 : Hid (Blk w (.slice none 0 0) (.slice none 0 0) ((w.alloc (.cells #[.slice none 0 0, .slice none 0 0] 57)).alloc (.cells #[.slice none 0 0, .slice none 0 0] 57))) := hide (by
    refine ⟨?_, ?_⟩
    · rw [Below.heap_alloc _ _ _ (by simp)]; exact heap_alloc_new w _
    · have := heap_alloc_new (w.alloc (.cells #[.slice none 0 0, .slice none 0 0] 57)) (.cells #[.slice none 0 0, .slice none 0 0] 57)
      rwa [show (w.alloc (.cells #[.slice none 0 0, .slice none 0 0] 57)).heap.size = w.heap.size + 1 by simp] at this)
  go_loopw [] (fun wr => ∃ (f : Nat) (acc : List Y.Dcl) (rest : List Tok) (dv : Value), DAt L B R px py ts w f acc rest dv wr) (fun wr => 8001 - declLen (w.heap.size + 1) wr)
  case atStart => exact ⟨ts.length + 1, [], ts, .slice none 0 0, only_alloc (only_alloc (World.grownBy.refl _ _) _) _, (HR.out.alloc _).alloc _, OwnD.nil _ _ _, HB0.out, by simp, by omega, rfl⟩
  case round =>
    clear HB0 HR
    obtain ⟨f, acc, rest, dv, hg, hrd, ho, hbk, hlen, hf, hsc⟩ := hrel
    obtain ⟨w1, hw1⟩ : ∃ w1 : World, w1 = wr := ⟨_, rfl⟩
    subst hw1
    obtain ⟨A0, k0, rfl, hk0, hk1⟩ := ho.form
    clear hk0 hk1
    have HIS := hide (is_at L B R px py rest [9] (by decide) w1)
    have HG0 := hide hg
    have HRD0 := hide hrd
    have HO0 := hide ho
    have HBK1 := hide hbk
    have HL := hide hlen
    have HF := hide hf
    have HSC0 := hide hsc
    clear hg hrd ho hbk hlen hf hsc
    obtain ⟨f, rfl⟩ : ∃ f', f = f' + 1 := ⟨f - 1, by have := HF.out; omega⟩
    rcases hb : Y.is [9] rest with _ | _
    · rw [hb] at HIS
      have HSC1 : Hid ((Y.decl rest).bind (fun d r => Y.decls f (acc ++ [d]) r) = Y.decls (ts.length + 1) [] ts) := hide (by rw [← HSC0.out, Y.decls, hb]; rfl)
      clear hb HSC0
      have HDC := hide (fun (x : World) (h : Rdr L B R px py x rest) => decl_any L B R px py rest x h)
      rcases hdc : Y.decl rest with ⟨d, r⟩ | p
      · rw [hdc] at HDC HSC1
        have HDL : Hid (r.length < rest.length) := hide (Y.decl_len hdc)
        have HSC : Hid (Y.decls f (acc ++ [d]) r = Y.decls (ts.length + 1) [] ts) := hide HSC1.out
        clear hdc HSC1
        go_wp2_with fail
        refine (HIS.out _ _ rfl rfl HRD0.out).mono ?_; rintro _ wi ⟨rfl, hgi⟩
        have HGI := hide (HG0.out.trans (hgi.row _))
        have HRDI := hide (HRD0.out.row hgi)
        have HOI := hide (HO0.out.grown hgi (Away.none _ _))
        have HBKI := hide (HBK1.out.grown (hgi.row (some R)) hR)
        clear hgi HIS HG0 HRD0 HO0
        go_upto_region 3 with fail
        refine Calm.region_tree (fun _ => True) (.two [0, 2] 1 (.one [] 3 (.one [] 4 (.one [] 5 (.one [6] 7 (.fin []))))) 3 (.two [] 1 (.one [] 4 (.one [] 5 (.one [6] 7 (.fin [])))) 4 (.one [] 1 (.one [] 5 (.one [6] 7 (.fin [])))))) (by kernel_rfl) (by kernel_rfl) (fun _ _ d _ _ h => by cases d <;> exact h) trivial ?_
        obtain ⟨w2, hw2⟩ : ∃ x, x = wi.drew := ⟨_, rfl⟩
        rw [← hw2]
        have hgd : wi.grownBy w2 .none := by rw [hw2]; exact drew_grown _ _
        have HG2 := hide (HGI.out.trans (hgd.row _))
        have HRD2 := hide (HRDI.out.row hgd)
        have HO2 := hide (HOI.out.grown hgd (Away.none _ _))
        have HBK2 := hide (HBKI.out.grown (hgd.row (some R)) hR)
        clear hw2 hgd HGI HRDI HOI HBKI
        simp only [Calm.wpT, Calm.wpSt, Calm.pickOps, List.getElem?_toArray, List.getElem?_cons_zero, List.getElem?_cons_succ]
        repeat (go_big_quiet_step (fail))
        refine wpQuiet_nil ?_
        refine ⟨?_, ?_⟩
        · intro KK hKK
          try rw [if_pos (by rfl)]
          have c0 := cell_of_row w2 _ 0 _ _ _ HBK2.out.2
          go_wp2_with fail
          clear c0
          refine hKK _ _ trivial (fun _ => True) (fun _ _ => trivial) trivial ?_
          repeat (go_big_quiet_step (fail))
          refine wpQuiet_nil ?_
          intro KK hKK
          try rw [if_pos (by rfl)]
          go_wp2_with fail
          refine (HDC.out _ HRD2.out).mono ?_; rintro _ w3 ⟨hg3, v3, rfl, hrd3, A, c, rfl, hrr3⟩
          have HG3 := hide (HG2.out.trans hg3)
          have HRD3 := hide hrd3
          have HO3 := hide (HO2.out.grown hg3 (HO2.out.away HRD2.out hR))
          have HBK3 := hide (HBK2.out.grown hg3 hR)
          have HRR3 := hide (hrr3.less HG2.out.size)
          clear hg3 hrd3 hrr3
          go_wp2_with fail
          refine hKK _ _ trivial (fun _ => True) (fun _ _ => trivial) trivial ?_
          repeat (go_big_quiet_step (fail))
          refine wpQuiet_nil ?_
          intro KK hKK
          try rw [if_pos (by rfl)]
          go_wp2_with fail
          obtain ⟨w4, hw4⟩ : ∃ x, x = w3.alloc (.cells #[.int .i64 d.k, .slice A d.ns.length c] 99) := ⟨_, rfl⟩
          rw [← hw4]
          have hgn : w3.grownBy w4 .none := by rw [hw4]; exact only_alloc (World.grownBy.refl _ _) _
          have HCE : Hid (∀ j u, (dcells d A c)[j]? = some u → w4.cell? ⟨w3.heap.size, j, none⟩ = some u) := hide (by
            intro j u hu
            rw [hw4, World.cell?_alloc_new]
            simpa [dcells] using hu)
          have HG4 := hide (HG3.out.trans (hgn.row _))
          have HRD4 := hide (HRD3.out.row hgn)
          have HO4 := hide (HO3.out.grown hgn (Away.none _ _))
          have HBK4 := hide (HBK3.out.grown (hgn.row (some R)) hR)
          have HRR4 := hide (HRR3.out.grown hgn (Other.none _))
          clear hw4 hgn
          refine hKK _ _ trivial (fun _ => True) (fun _ _ => trivial) trivial ?_
          repeat (go_big_quiet_step (fail))
          refine wpQuiet_nil ?_
          intro KK hKK
          try rw [if_pos (by rfl)]
          obtain ⟨zs, hown⟩ := HO4.out.own
          refine apD_wp (.tmp 9) (.tmp 12) _ rfl Tryz.underlying54 L w.heap.size _ acc rfl HO4.out _ 1 d A c rfl HCE.out HRR4.out (by have := HL.out; omega) HG4.out.size ?_
          intro v5 w5 ho5 hg5
          have HG5 := hide (grown_own HG4.out hown hg5)
          have HRD5 := hide (HRD4.out.own hown hg5 hR)
          have HBK5 := hide (HBK4.out.own hown (by decide) hg5)
          have HO5 := hide ho5
          clear ho5 hg5 hown HCE
          obtain ⟨A5, c5, rfl, hcc5, _⟩ := HO5.out.form
          rw [show (acc ++ [d]).length = acc.length + 1 by simp] at HO5
          go_wp2_with fail
          refine hKK _ _ trivial (fun _ => True) (fun _ _ => trivial) trivial ?_
          repeat (go_big_quiet_step (fail))
          refine wpQuiet_nil ?_
          intro KK hKK
          try rw [if_pos (by rfl)]
          obtain ⟨zs2, hown⟩ := HO5.out.own
          have c0 := cell_of_row w5 _ 0 _ _ _ HBK5.out.2
          have f0 := frozen_of_row w5 _ 0 _ _ HBK5.out.2
          go_wp2_with fail
          refine hKK _ _ trivial (fun _ => True) (fun _ _ => trivial) trivial ?_
          refine wpQuiet_nil ?_
          go_wp2_with fail
          go_roundw
          case rel =>
            refine ⟨f, acc ++ [d], r, .slice A5 (acc.length + 1) c5, only_far HG5.out _ _ _ (by omega), HRD5.out.far _ _ _ (by omega), HO5.out.grown (only_set (World.grownBy.refl _ _) _ _) (HBK5.out.away hown (by decide)), HBK5.out.set0 _, by have := HL.out; have := HDL.out; simp; omega, by have := HF.out; have := HDL.out; omega, HSC.out⟩
          case measure =>
            have e1 : ∀ dv (x : World), Blk w dv (.slice none 0 0) x → x.cell? ⟨w.heap.size + 1, 0, none⟩ = some dv := fun dv x h => by rw [cell_of_row x _ 0 _ _ _ h.2]; rfl
            have hm0 := e1 _ _ HBK1.out
            have hm1 := e1 _ _ (HBK5.out.set0 (.slice A5 (acc.length + 1) c5))
            have := HL.out
            unfold declLen
            rw [hm0, hm1]
            simp only
            omega
        · intro KK hKK
          try rw [if_pos (by rfl)]
          go_wp2_with fail
          refine (HDC.out _ HRD2.out).mono ?_; rintro _ w3 ⟨hg3, v3, rfl, hrd3, A, c, rfl, hrr3⟩
          have HG3 := hide (HG2.out.trans hg3)
          have HRD3 := hide hrd3
          have HO3 := hide (HO2.out.grown hg3 (HO2.out.away HRD2.out hR))
          have HBK3 := hide (HBK2.out.grown hg3 hR)
          have HRR3 := hide (hrr3.less HG2.out.size)
          clear hg3 hrd3 hrr3
          go_wp2_with fail
          refine hKK _ _ trivial (fun _ => True) (fun _ _ => trivial) trivial ?_
          repeat (go_big_quiet_step (fail))
          refine wpQuiet_nil ?_
          refine ⟨?_, ?_⟩
          · intro KK hKK
            try rw [if_pos (by rfl)]
            have c0 := cell_of_row w3 _ 0 _ _ _ HBK3.out.2
            go_wp2_with fail
            clear c0
            refine hKK _ _ trivial (fun _ => True) (fun _ _ => trivial) trivial ?_
            repeat (go_big_quiet_step (fail))
            refine wpQuiet_nil ?_
            intro KK hKK
            try rw [if_pos (by rfl)]
            go_wp2_with fail
            obtain ⟨w4, hw4⟩ : ∃ x, x = w3.alloc (.cells #[.int .i64 d.k, .slice A d.ns.length c] 99) := ⟨_, rfl⟩
            rw [← hw4]
            have hgn : w3.grownBy w4 .none := by rw [hw4]; exact only_alloc (World.grownBy.refl _ _) _
            have HCE : Hid (∀ j u, (dcells d A c)[j]? = some u → w4.cell? ⟨w3.heap.size, j, none⟩ = some u) := hide (by
              intro j u hu
              rw [hw4, World.cell?_alloc_new]
              simpa [dcells] using hu)
            have HG4 := hide (HG3.out.trans (hgn.row _))
            have HRD4 := hide (HRD3.out.row hgn)
            have HO4 := hide (HO3.out.grown hgn (Away.none _ _))
            have HBK4 := hide (HBK3.out.grown (hgn.row (some R)) hR)
            have HRR4 := hide (HRR3.out.grown hgn (Other.none _))
            clear hw4 hgn
            refine hKK _ _ trivial (fun _ => True) (fun _ _ => trivial) trivial ?_
            repeat (go_big_quiet_step (fail))
            refine wpQuiet_nil ?_
            intro KK hKK
            try rw [if_pos (by rfl)]
            obtain ⟨zs, hown⟩ := HO4.out.own
            refine apD_wp (.tmp 9) (.tmp 12) _ rfl Tryz.underlying54 L w.heap.size _ acc rfl HO4.out _ 1 d A c rfl HCE.out HRR4.out (by have := HL.out; omega) HG4.out.size ?_
            intro v5 w5 ho5 hg5
            have HG5 := hide (grown_own HG4.out hown hg5)
            have HRD5 := hide (HRD4.out.own hown hg5 hR)
            have HBK5 := hide (HBK4.out.own hown (by decide) hg5)
            have HO5 := hide ho5
            clear ho5 hg5 hown HCE
            obtain ⟨A5, c5, rfl, hcc5, _⟩ := HO5.out.form
            rw [show (acc ++ [d]).length = acc.length + 1 by simp] at HO5
            go_wp2_with fail
            refine hKK _ _ trivial (fun _ => True) (fun _ _ => trivial) trivial ?_
            repeat (go_big_quiet_step (fail))
            refine wpQuiet_nil ?_
            intro KK hKK
            try rw [if_pos (by rfl)]
            obtain ⟨zs2, hown⟩ := HO5.out.own
            have c0 := cell_of_row w5 _ 0 _ _ _ HBK5.out.2
            have f0 := frozen_of_row w5 _ 0 _ _ HBK5.out.2
            go_wp2_with fail
            refine hKK _ _ trivial (fun _ => True) (fun _ _ => trivial) trivial ?_
            refine wpQuiet_nil ?_
            go_wp2_with fail
            go_roundw
            case rel =>
              refine ⟨f, acc ++ [d], r, .slice A5 (acc.length + 1) c5, only_far HG5.out _ _ _ (by omega), HRD5.out.far _ _ _ (by omega), HO5.out.grown (only_set (World.grownBy.refl _ _) _ _) (HBK5.out.away hown (by decide)), HBK5.out.set0 _, by have := HL.out; have := HDL.out; simp; omega, by have := HF.out; have := HDL.out; omega, HSC.out⟩
            case measure =>
              have e1 : ∀ dv (x : World), Blk w dv (.slice none 0 0) x → x.cell? ⟨w.heap.size + 1, 0, none⟩ = some dv := fun dv x h => by rw [cell_of_row x _ 0 _ _ _ h.2]; rfl
              have hm0 := e1 _ _ HBK1.out
              have hm1 := e1 _ _ (HBK5.out.set0 (.slice A5 (acc.length + 1) c5))
              have := HL.out
              unfold declLen
              rw [hm0, hm1]
              simp only
              omega
          · intro KK hKK
            try rw [if_pos (by rfl)]
            go_wp2_with fail
            obtain ⟨w4, hw4⟩ : ∃ x, x = w3.alloc (.cells #[.int .i64 d.k, .slice A d.ns.length c] 99) := ⟨_, rfl⟩
            rw [← hw4]
            have hgn : w3.grownBy w4 .none := by rw [hw4]; exact only_alloc (World.grownBy.refl _ _) _
            have HCE : Hid (∀ j u, (dcells d A c)[j]? = some u → w4.cell? ⟨w3.heap.size, j, none⟩ = some u) := hide (by
              intro j u hu
              rw [hw4, World.cell?_alloc_new]
              simpa [dcells] using hu)
            have HG4 := hide (HG3.out.trans (hgn.row _))
            have HRD4 := hide (HRD3.out.row hgn)
            have HO4 := hide (HO3.out.grown hgn (Away.none _ _))
            have HBK4 := hide (HBK3.out.grown (hgn.row (some R)) hR)
            have HRR4 := hide (HRR3.out.grown hgn (Other.none _))
            clear hw4 hgn
            refine hKK _ _ trivial (fun _ => True) (fun _ _ => trivial) trivial ?_
            repeat (go_big_quiet_step (fail))
            refine wpQuiet_nil ?_
            intro KK hKK
            try rw [if_pos (by rfl)]
            have c0 := cell_of_row w4 _ 0 _ _ _ HBK4.out.2
            go_wp2_with fail
            clear c0
            refine hKK _ _ trivial (fun _ => True) (fun _ _ => trivial) trivial ?_
            repeat (go_big_quiet_step (fail))
            refine wpQuiet_nil ?_
            intro KK hKK
            try rw [if_pos (by rfl)]
            obtain ⟨zs, hown⟩ := HO4.out.own
            refine apD_wp (.tmp 9) (.tmp 12) _ rfl Tryz.underlying54 L w.heap.size _ acc rfl HO4.out _ 1 d A c rfl HCE.out HRR4.out (by have := HL.out; omega) HG4.out.size ?_
            intro v5 w5 ho5 hg5
            have HG5 := hide (grown_own HG4.out hown hg5)
            have HRD5 := hide (HRD4.out.own hown hg5 hR)
            have HBK5 := hide (HBK4.out.own hown (by decide) hg5)
            have HO5 := hide ho5
            clear ho5 hg5 hown HCE
            obtain ⟨A5, c5, rfl, hcc5, _⟩ := HO5.out.form
            rw [show (acc ++ [d]).length = acc.length + 1 by simp] at HO5
            go_wp2_with fail
            refine hKK _ _ trivial (fun _ => True) (fun _ _ => trivial) trivial ?_
            repeat (go_big_quiet_step (fail))
            refine wpQuiet_nil ?_
            intro KK hKK
            try rw [if_pos (by rfl)]
            obtain ⟨zs2, hown⟩ := HO5.out.own
            have c0 := cell_of_row w5 _ 0 _ _ _ HBK5.out.2
            have f0 := frozen_of_row w5 _ 0 _ _ HBK5.out.2
            go_wp2_with fail
            refine hKK _ _ trivial (fun _ => True) (fun _ _ => trivial) trivial ?_
            refine wpQuiet_nil ?_
            go_wp2_with fail
            go_roundw
            case rel =>
              refine ⟨f, acc ++ [d], r, .slice A5 (acc.length + 1) c5, only_far HG5.out _ _ _ (by omega), HRD5.out.far _ _ _ (by omega), HO5.out.grown (only_set (World.grownBy.refl _ _) _ _) (HBK5.out.away hown (by decide)), HBK5.out.set0 _, by have := HL.out; have := HDL.out; simp; omega, by have := HF.out; have := HDL.out; omega, HSC.out⟩
            case measure =>
              have e1 : ∀ dv (x : World), Blk w dv (.slice none 0 0) x → x.cell? ⟨w.heap.size + 1, 0, none⟩ = some dv := fun dv x h => by rw [cell_of_row x _ 0 _ _ _ h.2]; rfl
              have hm0 := e1 _ _ HBK1.out
              have hm1 := e1 _ _ (HBK5.out.set0 (.slice A5 (acc.length + 1) c5))
              have := HL.out
              unfold declLen
              rw [hm0, hm1]
              simp only
              omega
      · rw [hdc] at HDC HSC1
        have HSB : Hid (RES = .bad p) := hide (by rw [HS.out, ← HSC1.out]; rfl)
        clear hdc HSC1
        obtain rfl := HSB.out
        have HSB : Hid (True) := hide trivial
        go_wp2_with fail
        refine (HIS.out _ _ rfl rfl HRD0.out).mono ?_; rintro _ wi ⟨rfl, hgi⟩
        have HGI := hide (HG0.out.trans (hgi.row _))
        have HRDI := hide (HRD0.out.row hgi)
        have HOI := hide (HO0.out.grown hgi (Away.none _ _))
        have HBKI := hide (HBK1.out.grown (hgi.row (some R)) hR)
        clear hgi HIS HG0 HRD0 HO0
        go_upto_region 3 with fail
        refine Calm.region_tree (fun _ => True) (.two [0, 2] 1 (.one [] 3 (.one [] 4 (.one [] 5 (.one [6] 7 (.fin []))))) 3 (.two [] 1 (.one [] 4 (.one [] 5 (.one [6] 7 (.fin [])))) 4 (.one [] 1 (.one [] 5 (.one [6] 7 (.fin [])))))) (by kernel_rfl) (by kernel_rfl) (fun _ _ d _ _ h => by cases d <;> exact h) trivial ?_
        obtain ⟨w2, hw2⟩ : ∃ x, x = wi.drew := ⟨_, rfl⟩
        rw [← hw2]
        have hgd : wi.grownBy w2 .none := by rw [hw2]; exact drew_grown _ _
        have HG2 := hide (HGI.out.trans (hgd.row _))
        have HRD2 := hide (HRDI.out.row hgd)
        have HO2 := hide (HOI.out.grown hgd (Away.none _ _))
        have HBK2 := hide (HBKI.out.grown (hgd.row (some R)) hR)
        clear hw2 hgd HGI HRDI HOI HBKI
        simp only [Calm.wpT, Calm.wpSt, Calm.pickOps, List.getElem?_toArray, List.getElem?_cons_zero, List.getElem?_cons_succ]
        repeat (go_big_quiet_step (fail))
        refine wpQuiet_nil ?_
        refine ⟨?_, ?_⟩
        · intro KK hKK
          try rw [if_pos (by rfl)]
          have c0 := cell_of_row w2 _ 0 _ _ _ HBK2.out.2
          go_wp2_with fail
          clear c0
          refine hKK _ _ trivial (fun _ => True) (fun _ _ => trivial) trivial ?_
          repeat (go_big_quiet_step (fail))
          refine wpQuiet_nil ?_
          intro KK hKK
          try rw [if_pos (by rfl)]
          go_wp2_with fail
          refine (HDC.out _ HRD2.out).mono ?_; rintro _ w3 ⟨hg3, rfl⟩
          exact ⟨rfl, HG2.out.trans hg3, rfl⟩
        · intro KK hKK
          try rw [if_pos (by rfl)]
          go_wp2_with fail
          refine (HDC.out _ HRD2.out).mono ?_; rintro _ w3 ⟨hg3, rfl⟩
          exact ⟨rfl, HG2.out.trans hg3, rfl⟩
    · rw [hb] at HIS
      obtain ⟨t9, r9, hrest, htk, _⟩ := Y.is_true hb
      have HTK := hide (fun (x : World) => take_at L B R px py rest [9] (by decide) x)
      rw [htk] at HTK
      unfold tokV at HTK
      have HS2 : Hid (RES = (Y.group [] r9).bind fun ps r => (Y.groups (r.length + 1) ps r).bind fun ps r => (Y.tail r).bind fun _ r => .ok (acc, ps) r) := hide (by
        rw [HS.out, ← HSC0.out, Y.decls, if_pos hb, Y.bind_ok, htk, Y.bind_ok])
      have HR9 : Hid (r9.length ≤ 4000) := hide (by have := HL.out; rw [hrest] at this; simp at this; omega)
      clear hb htk hrest HSC0 HF HS
      have HGP := hide (fun (x : World) (h : Rdr L B R px py x r9) => group_any L B R px py r9 x x (.slice none 0 0) [] h (World.grownBy.refl _ _) h.lt (OwnP.nil _ _ _) (by have := HR9.out; simp; omega))
      rcases hgp : Y.group [] r9 with ⟨ps, r⟩ | p
      · rw [hgp] at HGP HS2
        rw [Y.bind_ok] at HS2
        have HPL : Hid (ps.length + r.length ≤ 4000) := hide (by have := Y.group_len hgp; have := HR9.out; simp at *; omega)
        clear hgp
        go_wp2_with fail
        refine (HIS.out _ _ rfl rfl HRD0.out).mono ?_; rintro _ wi ⟨rfl, hgi⟩
        have HRDI := hide (HRD0.out.row hgi)
        have HGI := hide hgi
        clear hgi
        go_wp2_with fail
        refine (HTK.out _ _ _ rfl rfl HRDI.out).mono ?_; rintro _ w2 ⟨hg2, v2, rfl, hrd2, rfl⟩
        have hg12 := (HGI.out.row (some R)).trans hg2
        have HG2 := hide (HG0.out.trans hg12)
        have HRD2 := hide hrd2
        have HO2 := hide (HO0.out.grown hg12 (HO0.out.away HRD0.out hR))
        have HBK2 := hide (HBK1.out.grown hg12 hR)
        clear hg2 hrd2 hg12 HIS HTK
        go_wp2_with fail
        refine (HGP.out _ HRD2.out).mono ?_; rintro _ w3 ⟨hg3, pv, rfl, hrd3, hop3⟩
        obtain ⟨A3, k3, rfl, _, _⟩ := hop3.form
        have HBK3 := hide (HBK2.out.grown hg3 hR)
        have HG3 := hide (HG2.out.trans hg3)
        have hb3lt : w.heap.size + 1 < w2.heap.size := (Array.getElem?_eq_some_iff.1 HBK2.out.2).1
        have HC3 : Hid (OwnD L (cutW (w3.setCell ⟨w.heap.size + 1, 1, none⟩ (.slice A3 ps.length k3)) w2.heap.size) w.heap.size (.slice A0 acc.length k0) acc) := hide (by
          obtain ⟨zs, hz⟩ := HO2.out.own
          have e1 : w2.grownBy (cutW w3 w2.heap.size) (some R) := by
            refine ⟨hg3.os, hg3.tape, hg3.output, by rw [cutW_size _ _ hg3.size]; exact Nat.le_refl _, fun k hk hne => ?_⟩
            rw [cutW_at _ _ _ hk]; exact hg3.block k hk hne
          have e2 : (cutW w3 w2.heap.size).grownBy (cutW (w3.setCell ⟨w.heap.size + 1, 1, none⟩ (.slice A3 ps.length k3)) w2.heap.size) (some (w.heap.size + 1)) := by
            refine ⟨rfl, rfl, rfl, by rw [cutW_size _ _ hg3.size, cutW_size _ _ (by simpa [World.setCell] using hg3.size)]; exact Nat.le_refl _, fun k hk hne => ?_⟩
            rw [cutW_size _ _ hg3.size] at hk
            rw [cutW_at _ _ _ hk, cutW_at _ _ _ hk]
            exact Below.heap_setCell w3 ⟨w.heap.size + 1, 1, none⟩ _ k (by rintro rfl; exact hne rfl)
          have o1 := HO2.out.grown e1 (HO2.out.away HRD2.out hR)
          obtain ⟨zs1, hz1⟩ := o1.own
          exact o1.grown e2 ((HBK3.out.cut hb3lt).away hz1 (by decide)))
        have HP3 : Hid (OwnP L (w3.setCell ⟨w.heap.size + 1, 1, none⟩ (.slice A3 ps.length k3)) w2.heap.size (.slice A3 ps.length k3) ps) := hide (by
          obtain ⟨zs, hz⟩ := hop3.own
          exact hop3.grown (only_set (World.grownBy.refl _ _) _ _) (HBK3.out.away hz (by decide)))
        have HRD3 := hide hrd3
        have HSZ : Hid (w2.heap.size ≤ w3.heap.size) := hide hg3.size
        have c1 := cell_of_row w3 _ 1 _ _ _ HBK3.out.2
        have f1 := frozen_of_row w3 _ 1 _ _ HBK3.out.2
        clear hg3 hrd3 hop3 HGP HO2 HG2 HRD2 HBK2 HO0 HG0 HRD0 HBK1 HL HRDI HGI
        go_wp2_with fail
        clear c1 f1
        have HGS : Hid (RES = (Y.groups (r.length + 1) ps r).bind fun ps r => (Y.tail r).bind fun _ r => .ok (acc, ps) r) := hide HS2.out
        clear HS2
        generalize hGS : Y.groups (r.length + 1) ps r = GS at *
        have HGS0 := hide hGS
        clear hGS
        go_loopw [] (fun wr => ∃ (f : Nat) (acc2 : List Y.Prd) (rest2 : List Tok) (pv : Value), QAt L B R px py w w2.heap.size acc (.slice A0 acc.length k0) GS f acc2 rest2 pv wr) (fun wr => declLen R wr)
        case atStart => exact ⟨r.length + 1, ps, r, .slice A3 ps.length k3, only_far HG3.out _ _ _ (by omega), HRD3.out.far _ _ _ (by omega), HC3.out, HP3.out, HBK3.out.set1 _, by have := HSZ.out; simpa [World.setCell] using this, HPL.out, by omega, HGS0.out⟩
        case round =>
          clear HG3 HRD3 HC3 HP3 HBK3 HSZ HPL HGS0
          obtain ⟨f, acc2, rest2, pv, hg, hrd, hcd, hop, hbk, hpb, hlen, hf, hgs⟩ := hrel
          obtain ⟨w4, hw4⟩ : ∃ w4 : World, w4 = wr := ⟨_, rfl⟩
          subst hw4
          obtain ⟨A4, k4, rfl, hk0, hk1⟩ := hop.form
          obtain ⟨f, rfl⟩ : ∃ f', f = f' + 1 := ⟨f - 1, by omega⟩
          clear hk0 hk1
          have HG := hide hg
          have HRD := hide hrd
          have HCD := hide hcd
          have HOP := hide hop
          have HBK := hide hbk
          have HPB := hide hpb
          have HL := hide hlen
          have HF := hide hf
          have HGS1 := hide hgs
          obtain ⟨AR, cR, h0, _, _, _, _, _⟩ := hrd.cell0
          clear hg hrd hcd hop hbk hpb hlen hf hgs
          by_cases hrl : rest2.length = 0
          · have HE : Hid (GS = .ok acc2 rest2) := hide (by rw [← HGS1.out, groups_end _ _ _ (.inl hrl)])
            obtain rfl := HE.out
            have HDX := hide (HCD.out.grown (cutW_grown w4 _ HPB.out .none) (Away.none _ _))
            have HPX := hide (HOP.out.less (show w.heap.size ≤ w2.heap.size by omega))
            have HGX := hide HG.out
            have HRDX := hide HRD.out
            have HBKX := hide HBK.out
            have hl0 : ¬ 0 < (rest2.length : Int) := by omega
            clear HG HRD HCD HOP HBK HPB HL HF HGS1 HE hrl
            have HTL := hide (ytail_any L B R px py rest2 _ HRDX.out)
            rw [Y.bind_ok] at HGS
            rcases htl : Y.tail rest2 with ⟨u, r5⟩ | p
            · rw [htl] at HTL HGS
              rw [Y.bind_ok] at HGS
              clear htl
              obtain rfl := HGS.out
              go_wp2_with fail
              refine HTL.out.mono ?_; rintro _ w5 ⟨hg5, v5, rfl, hrd5, _⟩
              have HRD5 := hide hrd5
              have HG5 := hide (HGX.out.trans hg5)
              have HD5 := hide (HDX.out.grown hg5 (HDX.out.away HRDX.out hR))
              have HP5 := hide (HPX.out.grown hg5 (HPX.out.away HRDX.out hR))
              have HBK5 := hide (HBKX.out.grown hg5 hR)
              have c0 := cell_of_row w5 _ 0 _ _ _ HBK5.out.2
              have c1 := cell_of_row w5 _ 1 _ _ _ HBK5.out.2
              have d0 := cell_of_row w5 _ 0 _ _ _ HBK5.out.1
              have d1 := cell_of_row w5 _ 1 _ _ _ HBK5.out.1
              have f0 := frozen_of_row w5 _ 0 _ _ HBK5.out.1
              have f1 := frozen_of_row w5 _ 1 _ _ HBK5.out.1
              have HOT := hide (other_of HBK5.out.1 (by decide))
              have HWD : Hid (Away w5 (.slice A0 acc.length k0) (some w.heap.size)) := hide (by
                obtain ⟨zs, hz⟩ := HD5.out.own
                exact ⟨HOT.out, .inr (own_ne hz HBK5.out.1 (by decide))⟩)
              have HWP : Hid (Away w5 (.slice A4 acc2.length k4) (some w.heap.size)) := hide (by
                obtain ⟨zs, hz⟩ := HP5.out.own
                exact ⟨HOT.out, .inr (own_ne hz HBK5.out.1 (by decide))⟩)
              clear hg5 hrd5 HTL HGX HRDX HDX HPX HBKX
              go_wp2
              refine bodyPost_ret (v := .agg #[.slice A0 acc.length k0, .slice A4 acc2.length k4]) (by simp [results, Tryz.results62, go_sem, d0, d1]) rfl ⟨only_far (only_far HG5.out _ _ _ (Nat.le_refl _)) _ _ _ (Nat.le_refl _), _, rfl, (HRD5.out.far _ _ _ hR).far _ _ _ hR, _, _, rfl, HD5.out.grown (only_set (only_set (World.grownBy.refl _ _) _ _) _ _) HWD.out, HP5.out.grown (only_set (only_set (World.grownBy.refl _ _) _ _) _ _) HWP.out⟩
            · rw [htl] at HTL HGS
              rw [Y.bind_bad] at HGS
              clear htl
              obtain rfl := HGS.out
              go_wp2_with fail
              refine HTL.out.mono ?_; rintro _ w5 ⟨hg5, rfl⟩
              exact ⟨rfl, HGX.out.trans hg5, rfl⟩
          · have hl0 : 0 < (rest2.length : Int) := by omega
            have HIS := hide (is_at L B R px py rest2 [9] (by decide) w4)
            rcases hb : Y.is [9] rest2 with _ | _
            · rw [hb] at HIS
              have HGS2 : Hid ((Y.group acc2 rest2).bind (fun ps r => Y.groups f ps r) = GS) := hide (by rw [← HGS1.out, groups_on _ _ _ hrl hb])
              clear hb hrl HGS1
              have HLN : Hid (declLen R w4 = rest2.length) := hide HRD.out.len
              have HGP2 := hide (fun (x : World) (h : Rdr L B R px py x rest2) (hpb : w2.heap.size ≤ x.heap.size) (ho : OwnP L x w2.heap.size (.slice A4 acc2.length k4) acc2) => group_any L B R px py rest2 (cutW x w2.heap.size) x (.slice A4 acc2.length k4) acc2 h (cutW_grown x _ hpb _) (by rw [cutW_size _ _ hpb]; omega) (by rw [cutW_size _ _ hpb]; exact ho) (by have := HL.out; omega))
              rcases hgp : Y.group acc2 rest2 with ⟨ps2, r2⟩ | p
              · rw [hgp] at HGP2 HGS2
                rw [Y.bind_ok] at HGS2
                have HGL := hide (Y.group_len hgp)
                have HGR := hide (Y.group_rest hgp)
                clear hgp
                have k1 := cell_of_row w4 _ 1 _ _ _ HBK.out.2
                go_wp2_with fail
                refine (HIS.out _ _ rfl rfl HRD.out).mono ?_; rintro _ w6 ⟨rfl, hg6⟩
                have HG6 := hide (HG.out.trans (hg6.row (some R)))
                have HRD6 := hide (HRD.out.row hg6)
                have HCD6 := hide (HCD.out.grown (cutW_mono HPB.out hg6) (Away.none _ _))
                have HOP6 := hide (HOP.out.grown hg6 (Away.none _ _))
                have HBK6 := hide (HBK.out.grown (hg6.row (some R)) hR)
                have HPB6 : Hid (w2.heap.size ≤ w6.heap.size) := hide (Nat.le_trans HPB.out hg6.size)
                clear hg6 HG HRD HCD HOP HBK HPB HIS k1
                have k1 := cell_of_row w6 _ 1 _ _ _ HBK6.out.2
                go_wp2_with fail
                refine (HGP2.out _ HRD6.out HPB6.out HOP6.out).mono ?_; rintro _ w7 ⟨hg7, pv7, rfl, hrd7, hop7⟩
                rw [cutW_size _ _ HPB6.out] at hop7
                have hbk7 := (HBK6.out.cut hb3lt).grown hg7 hR
                obtain ⟨zs7, hz7⟩ := hop7.own
                have HG7 := hide ((cutW_from HG6.out (by omega) HPB6.out).trans hg7)
                have HPB7 : Hid (w2.heap.size ≤ w7.heap.size) := hide (by have := hg7.size; rwa [cutW_size _ _ HPB6.out] at this)
                have HRD7 := hide hrd7
                have hcd7 := HCD6.out.grown (cutW_step HPB6.out hg7) (HCD6.out.away (HRD6.out.cut (by omega)) hR)
                obtain ⟨zs8, hz8⟩ := hcd7.own
                have HCD7 := hide (fun u => hcd7.grown (cutW_set w7 w2.heap.size (w.heap.size + 1) 1 u HPB7.out) ((hbk7.cut hb3lt).away hz8 (by decide)))
                have HOP7 := hide (fun u => hop7.grown (only_set (World.grownBy.refl _ _) 1 u) (hbk7.away hz7 (by decide)))
                have HBK7 := hide hbk7
                obtain ⟨A7, k7, rfl, _, _⟩ := hop7.form
                have e1 := cell_of_row w7 _ 1 _ _ _ hbk7.2
                have f1 := frozen_of_row w7 _ 1 _ _ hbk7.2
                clear hg7 hrd7 hop7 hbk7 hz7 hcd7 hz8 HGP2 HG6 HRD6 HCD6 HOP6 HBK6 HPB6 k1
                go_wp2_with fail
                go_roundw
                case rel => exact ⟨f, ps2, r2, .slice A7 ps2.length k7, only_far HG7.out _ _ _ (by omega), HRD7.out.far _ _ _ (by omega), HCD7.out _, HOP7.out _, HBK7.out.set1 _, by have := HPB7.out; simpa [World.setCell] using this, by have := HL.out; have := HGL.out; omega, by have := HF.out; have := HGR.out; omega, HGS2.out⟩
                case measure =>
                  rw [(HRD7.out.far _ _ _ (by omega)).len, HLN.out]
                  exact HGR.out
              · rw [hgp] at HGP2 HGS2
                rw [Y.bind_bad] at HGS2
                clear hgp
                obtain rfl := HGS2.out
                rw [Y.bind_bad] at HGS
                obtain rfl := HGS.out
                go_wp2_with fail
                refine (HIS.out _ _ rfl rfl HRD.out).mono ?_; rintro _ w6 ⟨rfl, hg6⟩
                have HG6 := hide (HG.out.trans (hg6.row (some R)))
                have HRD6 := hide (HRD.out.row hg6)
                have HOP6 := hide (HOP.out.grown hg6 (Away.none _ _))
                have HPB6 : Hid (w2.heap.size ≤ w6.heap.size) := hide (Nat.le_trans HPB.out hg6.size)
                have HBK6 := hide (HBK.out.grown (hg6.row (some R)) hR)
                have k1 := cell_of_row w6 _ 1 _ _ _ HBK6.out.2
                clear hg6 HG HRD HCD HOP HBK HPB HIS
                go_wp2_with fail
                refine (HGP2.out _ HRD6.out HPB6.out HOP6.out).mono ?_; rintro _ w7 ⟨hg7, rfl⟩
                exact ⟨rfl, (cutW_from HG6.out (by omega) HPB6.out).trans hg7, rfl⟩
            · rw [hb] at HIS
              have HE : Hid (GS = .ok acc2 rest2) := hide (by rw [← HGS1.out, groups_end _ _ _ (.inr hb)])
              obtain rfl := HE.out
              clear hb hrl HE HGS1
              go_wp2_with fail
              refine (HIS.out _ _ rfl rfl HRD.out).mono ?_; rintro _ w6 ⟨rfl, hg6⟩
              have HDX := hide ((HCD.out.grown (cutW_grown w4 _ HPB.out .none) (Away.none _ _)).grown hg6 (Away.none _ _))
              have HPX := hide ((HOP.out.less (show w.heap.size ≤ w2.heap.size by omega)).grown hg6 (Away.none _ _))
              have HGX := hide (HG.out.trans (hg6.row (some R)))
              have HRDX := hide (HRD.out.row hg6)
              have HBKX := hide (HBK.out.grown (hg6.row (some R)) hR)
              clear hg6 HG HRD HCD HOP HBK HPB HL HF HIS
              have HTL := hide (ytail_any L B R px py rest2 _ HRDX.out)
              rw [Y.bind_ok] at HGS
              rcases htl : Y.tail rest2 with ⟨u, r5⟩ | p
              · rw [htl] at HTL HGS
                rw [Y.bind_ok] at HGS
                clear htl
                obtain rfl := HGS.out
                go_wp2_with fail
                refine HTL.out.mono ?_; rintro _ w5 ⟨hg5, v5, rfl, hrd5, _⟩
                have HRD5 := hide hrd5
                have HG5 := hide (HGX.out.trans hg5)
                have HD5 := hide (HDX.out.grown hg5 (HDX.out.away HRDX.out hR))
                have HP5 := hide (HPX.out.grown hg5 (HPX.out.away HRDX.out hR))
                have HBK5 := hide (HBKX.out.grown hg5 hR)
                have c0 := cell_of_row w5 _ 0 _ _ _ HBK5.out.2
                have c1 := cell_of_row w5 _ 1 _ _ _ HBK5.out.2
                have d0 := cell_of_row w5 _ 0 _ _ _ HBK5.out.1
                have d1 := cell_of_row w5 _ 1 _ _ _ HBK5.out.1
                have f0 := frozen_of_row w5 _ 0 _ _ HBK5.out.1
                have f1 := frozen_of_row w5 _ 1 _ _ HBK5.out.1
                have HOT := hide (other_of HBK5.out.1 (by decide))
                have HWD : Hid (Away w5 (.slice A0 acc.length k0) (some w.heap.size)) := hide (by
                  obtain ⟨zs, hz⟩ := HD5.out.own
                  exact ⟨HOT.out, .inr (own_ne hz HBK5.out.1 (by decide))⟩)
                have HWP : Hid (Away w5 (.slice A4 acc2.length k4) (some w.heap.size)) := hide (by
                  obtain ⟨zs, hz⟩ := HP5.out.own
                  exact ⟨HOT.out, .inr (own_ne hz HBK5.out.1 (by decide))⟩)
                clear hg5 hrd5 HTL HGX HRDX HDX HPX HBKX
                go_wp2
                refine bodyPost_ret (v := .agg #[.slice A0 acc.length k0, .slice A4 acc2.length k4]) (by simp [results, Tryz.results62, go_sem, d0, d1]) rfl ⟨only_far (only_far HG5.out _ _ _ (Nat.le_refl _)) _ _ _ (Nat.le_refl _), _, rfl, (HRD5.out.far _ _ _ hR).far _ _ _ hR, _, _, rfl, HD5.out.grown (only_set (only_set (World.grownBy.refl _ _) _ _) _ _) HWD.out, HP5.out.grown (only_set (only_set (World.grownBy.refl _ _) _ _) _ _) HWP.out⟩
              · rw [htl] at HTL HGS
                rw [Y.bind_bad] at HGS
                clear htl
                obtain rfl := HGS.out
                go_wp2_with fail
                refine HTL.out.mono ?_; rintro _ w5 ⟨hg5, rfl⟩
                exact ⟨rfl, HGX.out.trans hg5, rfl⟩
      · rw [hgp] at HGP HS2
        clear hgp
        rw [Y.bind_bad] at HS2
        obtain rfl := HS2.out
        go_wp2_with fail
        refine (HIS.out _ _ rfl rfl HRD0.out).mono ?_; rintro _ wi ⟨rfl, hgi⟩
        have HRDI := hide (HRD0.out.row hgi)
        have HGI := hide hgi
        clear hgi
        go_wp2_with fail
        refine (HTK.out _ _ _ rfl rfl HRDI.out).mono ?_; rintro _ w2 ⟨hg2, v2, rfl, hrd2, rfl⟩
        have HG2 := hide ((HG0.out.trans (HGI.out.row (some R))).trans hg2)
        have HRD2 := hide hrd2
        clear hg2 hrd2
        go_wp2_with fail
        refine (HGP.out _ HRD2.out).mono ?_; rintro _ w3 ⟨hg3, rfl⟩
        exact ⟨rfl, HG2.out.trans hg3, rfl⟩
end Go.Proofs.YtoehbkgdodogkaaGreat
