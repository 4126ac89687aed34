/- Slices of rules and of declarations of the call's own, over this program. -/
import Derived.Test.YtoehbkgdodogkaaGreatYaccRd
import Derived.Test.YtoehbkgdodogkaaGreatCalmT
namespace Go.Proofs.YtoehbkgdodogkaaGreat
set_option maxRecDepth 100000
open Go.RowKit

/-- A rule's cells, where its right side is a value; a declaration's. -/
def precells (L : List Int) : Option Tok → List Value
  | none => [.string ⟨#[]⟩, .complex .f64 0 0]
  | some t => rcells L t
def pcells (L : List Int) (p : Y.Prd) (A : Option Addr) (c : Nat) : List Value := rcells L p.l ++ [.slice A p.r.length c] ++ precells L p.p
def dcells (d : Y.Dcl) (A : Option Addr) (c : Nat) : List Value := [.int .i64 d.k, .slice A d.ns.length c]
/-- A rule, or a declaration, and where its references lie. -/
abbrev PA := Y.Prd × Option Addr × Nat
abbrev DA := Y.Dcl × Option Addr × Nat
def pall (L : List Int) (qs : List PA) : List Value := qs.flatMap fun q => pcells L q.1 q.2.1 q.2.2
def dall (qs : List DA) : List Value := qs.flatMap fun q => dcells q.1 q.2.1 q.2.2
theorem pcells_len (L : List Int) (p : Y.Prd) (A : Option Addr) (c : Nat) : (pcells L p A c).length = 5 := by
  unfold pcells precells
  split <;> rfl
theorem pall_at (L : List Int) (qs : List PA) (i j : Nat) (hi : i < qs.length) (hj : j < 5) : (pall L qs)[i * 5 + j]? = (pcells L qs[i].1 qs[i].2.1 qs[i].2.2)[j]? := by
  unfold pall
  induction qs generalizing i with
  | nil => simp at hi
  | cons x r ih =>
    rw [List.flatMap_cons]
    have hl := pcells_len L x.1 x.2.1 x.2.2
    cases i with
    | zero => rw [List.getElem?_append_left (by omega)]; simp
    | succ i =>
      rw [List.getElem?_append_right (by omega), hl, show (i + 1) * 5 + j - 5 = i * 5 + j by omega]
      simpa using ih i (by simpa using hi)
theorem dall_at (qs : List DA) (i j : Nat) (hi : i < qs.length) (hj : j < 2) : (dall qs)[i * 2 + j]? = (dcells qs[i].1 qs[i].2.1 qs[i].2.2)[j]? := by
  unfold dall
  induction qs generalizing i with
  | nil => simp at hi
  | cons x r ih =>
    rw [List.flatMap_cons]
    have hl : (dcells x.1 x.2.1 x.2.2).length = 2 := rfl
    cases i with
    | zero => rw [List.getElem?_append_left (by omega)]; simp
    | succ i =>
      rw [List.getElem?_append_right (by omega), hl, show (i + 1) * 2 + j - 2 = i * 2 + j by omega]
      simpa using ih i (by simpa using hi)

/-- Slices of the call's own with these rules, these declarations. -/
def OwnP (L : List Int) (w : World) (base : Nat) (v : Value) (ps : List Y.Prd) : Prop :=
  ∃ qs : List PA, qs.map (·.1) = ps ∧ w.ownsRow base 102 5 v ps.length (pall L qs) ∧ ∀ q ∈ qs, RdR L w base q.2.1 q.1.r
def OwnD (L : List Int) (w : World) (base : Nat) (v : Value) (ds : List Y.Dcl) : Prop :=
  ∃ qs : List DA, qs.map (·.1) = ds ∧ w.ownsRow base 99 2 v ds.length (dall qs) ∧ ∀ q ∈ qs, RdR L w base q.2.1 q.1.ns
theorem OwnP.nil (L : List Int) (w : World) (base : Nat) : OwnP L w base (.slice none 0 0) [] := ⟨[], rfl, World.ownsRow_nil w base _ _, fun q h => by cases h⟩
theorem OwnD.nil (L : List Int) (w : World) (base : Nat) : OwnD L w base (.slice none 0 0) [] := ⟨[], rfl, World.ownsRow_nil w base _ _, fun q h => by cases h⟩
/-- What is written lies neither in references nor in a slice. -/
def Away (w : World) (v : Value) (row : Option Nat) : Prop := Other w row ∧ (v.ownBlock = none ∨ v.ownBlock ≠ row)
theorem Away.none (w : World) (v : Value) : Away w v .none := ⟨Other.none w, by rcases v.ownBlock with _ | k; exact .inl rfl; exact .inr (by simp)⟩
theorem OwnP.grown {L : List Int} {w w' : World} {base : Nat} {v : Value} {ps : List Y.Prd} {row : Option Nat} (h : OwnP L w base v ps) (hg : w.grownBy w' row) (ha : Away w v row) : OwnP L w' base v ps := by
  obtain ⟨qs, h1, h2, h3⟩ := h
  exact ⟨qs, h1, h2.kept hg ha.2, fun q hq => (h3 q hq).grown hg ha.1⟩
theorem OwnD.grown {L : List Int} {w w' : World} {base : Nat} {v : Value} {ds : List Y.Dcl} {row : Option Nat} (h : OwnD L w base v ds) (hg : w.grownBy w' row) (ha : Away w v row) : OwnD L w' base v ds := by
  obtain ⟨qs, h1, h2, h3⟩ := h
  exact ⟨qs, h1, h2.kept hg ha.2, fun q hq => (h3 q hq).grown hg ha.1⟩
theorem OwnP.away {L : List Int} {w : World} {base : Nat} {v : Value} {ps : List Y.Prd} {B R px py : Nat} {ts : List Tok} (h : OwnP L w base v ps) (hr : Rdr L B R px py w ts) (hb : R < base) : Away w v (some R) := by
  refine ⟨hr.other, ?_⟩
  obtain ⟨qs, h1, h2, h3⟩ := h
  rcases hv : v.ownBlock with _ | k
  · exact .inl rfl
  · have := (World.ownsRow.lt h2 k hv).1
    exact .inr (fun e => by injection e with e; omega)
theorem OwnD.away {L : List Int} {w : World} {base : Nat} {v : Value} {ds : List Y.Dcl} {B R px py : Nat} {ts : List Tok} (h : OwnD L w base v ds) (hr : Rdr L B R px py w ts) (hb : R < base) : Away w v (some R) := by
  refine ⟨hr.other, ?_⟩
  obtain ⟨qs, h1, h2, h3⟩ := h
  rcases hv : v.ownBlock with _ | k
  · exact .inl rfl
  · have := (World.ownsRow.lt h2 k hv).1
    exact .inr (fun e => by injection e with e; omega)
theorem own_other {w : World} {base : Nat} {v : Value} {n : Nat} {size : Nat} {e : TypeId} {xs : List Value} (h : w.ownsRow base e size v n xs) (he : e ≠ 74) : Other w v.ownBlock := by
  intro k hk cur hc
  rcases h.2 with ⟨rfl, _⟩ | ⟨g, cap, cur', rfl, _, hg, _⟩
  · cases hk
  · injection hk with hk
    subst hk
    have hg' : w.heap[g]? = some (.cells cur 74 (0, 0)) := hc
    rw [hg] at hg'
    injection hg' with e1
    injection e1 with _ e2
    exact he e2
theorem OwnP.form {L : List Int} {w : World} {base : Nat} {v : Value} {ps : List Y.Prd} (h : OwnP L w base v ps) : ∃ A c, v = .slice A ps.length c ∧ ps.length ≤ c ∧ c ≤ maxLen := by
  obtain ⟨qs, h1, h2, h3⟩ := h
  rcases h2.2 with ⟨rfl, h0⟩ | ⟨g, cap, cur, rfl, hb, hg, hn, hm, hs, ht⟩
  · exact ⟨none, 0, by rw [h0], by omega, by unfold maxLen; omega⟩
  · exact ⟨_, cap, rfl, hn, hm⟩
theorem OwnD.form {L : List Int} {w : World} {base : Nat} {v : Value} {ds : List Y.Dcl} (h : OwnD L w base v ds) : ∃ A c, v = .slice A ds.length c ∧ ds.length ≤ c ∧ c ≤ maxLen := by
  obtain ⟨qs, h1, h2, h3⟩ := h
  rcases h2.2 with ⟨rfl, h0⟩ | ⟨g, cap, cur, rfl, hb, hg, hn, hm, hs, ht⟩
  · exact ⟨none, 0, by rw [h0], by omega, by unfold maxLen; omega⟩
  · exact ⟨_, cap, rfl, hn, hm⟩
theorem infoP : (Tryz.prog.info? 102).map (fun i => (i.zero, i.size, i.bytes)) = some (some (.agg #[.string ⟨#[]⟩, .complex .f64 0 0, .slice none 0 0, .string ⟨#[]⟩, .complex .f64 0 0]), 5, 88) := by kernel_rfl
theorem infoD : (Tryz.prog.info? 99).map (fun i => (i.zero, i.size, i.bytes)) = some (some (.agg #[.int .i64 0, .slice none 0 0]), 2, 32) := by kernel_rfl
theorem pcells_one (L : List Int) (p : Y.Prd) (A : Option Addr) (c : Nat) : ∀ u ∈ pcells L p A c, u.oneCell' = true := by
  intro u hu
  unfold pcells precells at hu
  split at hu <;> simp [rcells] at hu <;> rcases hu with rfl | rfl | rfl | rfl | rfl <;> rfl

/-- append of one rule, which lies in a block of its own, to a slice of the call's own. -/
theorem apP_arm {w : World} {ops : Array Oper} {rest : List Oper} {o : Oper} {a : Act} {Q : Exit → Act → World → Prop}
    (hgd : o.guard = none) (s x : Operand) (t : TypeId) (ho : o.op = .call { callee := .builtin .append, args := #[s, x], argTypes := #[t, t] }) (ht : Tryz.prog.underlying t = some (.slice 102))
    (L : List Int) (base : Nat) (v : Value) (ps : List Y.Prd) (hs : a.eval s = v) (hown : OwnP L w base v ps) (g c : Nat) (p : Y.Prd) (A : Option Addr) (pc : Nat) (hx : a.eval x = .slice (some ⟨g, 0, none⟩) 1 c) (hz : ∀ j u, (pcells L p A pc)[j]? = some u → w.cell? ⟨g, j, none⟩ = some u) (hr : RdR L w base A p.r)
    (hlen : ps.length ≤ 1000000) (hbase : base ≤ w.heap.size)
    (hK : ∀ v' w', OwnP L w' base v' (ps ++ [p]) → w.grownBy w' v.ownBlock → wpList Tryz.prog ops Q rest (a.put o.dst v') w') :
    wpList Tryz.prog ops Q (o :: rest) a w := by
  obtain ⟨i, hi, hz0, hz1, hz2⟩ := info_parts infoP
  obtain ⟨qs, hq1, hq2, hq3⟩ := hown
  have hlq : qs.length = ps.length := by rw [← hq1, List.length_map]
  refine wpList_append_own w hgd s x t ho base 102 i _ 5 88 ht hi hz0 hz1 hz2 rfl (by decide) v ps.length (pall L qs) hs hq2 ⟨g, 0, none⟩ 1 c (pcells L p A pc) hx (by rw [pcells_len]) ?_ (pcells_one L p A pc) (by unfold maxLen; omega) (by omega) hbase fun v' w' h1 h2 _ => hK v' w' ?_ h2
  · intro j u hj
    rw [addZ, Nat.zero_add]
    exact hz j u hj
  · have ho := own_other hq2 (by decide)
    refine ⟨qs ++ [(p, A, pc)], by rw [List.map_append, hq1]; rfl, ?_, fun q hq => ?_⟩
    · rw [List.length_append]
      unfold pall
      rw [List.flatMap_append, List.flatMap_singleton]
      exact h1
    · rcases List.mem_append.1 hq with h | h
      · exact (hq3 q h).grown h2 ho
      · rw [List.mem_singleton] at h
        subst h
        exact hr.grown h2 ho
/-- append of one declaration, which lies in a block of its own, to a slice of the call's own. -/
theorem apD_arm {w : World} {ops : Array Oper} {rest : List Oper} {o : Oper} {a : Act} {Q : Exit → Act → World → Prop}
    (hgd : o.guard = none) (s x : Operand) (t : TypeId) (ho : o.op = .call { callee := .builtin .append, args := #[s, x], argTypes := #[t, t] }) (ht : Tryz.prog.underlying t = some (.slice 99))
    (L : List Int) (base : Nat) (v : Value) (ds : List Y.Dcl) (hs : a.eval s = v) (hown : OwnD L w base v ds) (g c : Nat) (d : Y.Dcl) (A : Option Addr) (dc : Nat) (hx : a.eval x = .slice (some ⟨g, 0, none⟩) 1 c) (hz : ∀ j u, (dcells d A dc)[j]? = some u → w.cell? ⟨g, j, none⟩ = some u) (hr : RdR L w base A d.ns)
    (hlen : ds.length ≤ 1000000) (hbase : base ≤ w.heap.size)
    (hK : ∀ v' w', OwnD L w' base v' (ds ++ [d]) → w.grownBy w' v.ownBlock → wpList Tryz.prog ops Q rest (a.put o.dst v') w') :
    wpList Tryz.prog ops Q (o :: rest) a w := by
  obtain ⟨i, hi, hz0, hz1, hz2⟩ := info_parts infoD
  obtain ⟨qs, hq1, hq2, hq3⟩ := hown
  refine wpList_append_own w hgd s x t ho base 99 i _ 2 32 ht hi hz0 hz1 hz2 rfl (by decide) v ds.length (dall qs) hs hq2 ⟨g, 0, none⟩ 1 c (dcells d A dc) hx rfl ?_ (fun u hu => by simp [dcells] at hu; rcases hu with rfl | rfl <;> rfl) (by unfold maxLen; omega) (by omega) hbase fun v' w' h1 h2 _ => hK v' w' ?_ h2
  · intro j u hj
    rw [addZ, Nat.zero_add]
    exact hz j u hj
  · have ho := own_other hq2 (by decide)
    refine ⟨qs ++ [(d, A, dc)], by rw [List.map_append, hq1]; rfl, ?_, fun q hq => ?_⟩
    · rw [List.length_append]
      unfold dall
      rw [List.flatMap_append, List.flatMap_singleton]
      exact h1
    · rcases List.mem_append.1 hq with h | h
      · exact (hq3 q h).grown h2 ho
      · rw [List.mem_singleton] at h
        subst h
        exact hr.grown h2 ho

/-- A rule that is answered, a declaration that is answered. -/
def VPrd (L : List Int) (base : Nat) (p : Y.Prd) (v : Value) (w : World) : Prop := ∃ A c, v = .agg (pcells L p A c).toArray ∧ RdR L w base A p.r
def VDcl (L : List Int) (base : Nat) (d : Y.Dcl) (v : Value) (w : World) : Prop := ∃ A c, v = .agg #[.int .i64 d.k, .slice A d.ns.length c] ∧ RdR L w base A d.ns
theorem drew_grown (w : World) (row : Option Nat) : w.grownBy w.drew row := ⟨rfl, rfl, rfl, Nat.le_refl _, fun _ _ _ => rfl⟩
theorem Rdr.row {L : List Int} {B R px py : Nat} {w w' : World} {ts : List Tok} (h : Rdr L B R px py w ts) (hg : w.grownBy w' .none) : Rdr L B R px py w' ts := h.grown hg (fun _ e => by cases e)
theorem Rdr.drew {L : List Int} {B R px py : Nat} {w : World} {ts : List Tok} (h : Rdr L B R px py w ts) : Rdr L B R px py w.drew ts := h.row (drew_grown w _)
theorem block_at {w w2 : World} {g R : Nat} {o : Obj} (h : w.grownBy w2 (some R)) (ho : w.heap[g]? = some o) (hne : g ≠ R) : w2.heap[g]? = some o := by
  rw [h.block g (Array.getElem?_eq_some_iff.1 ho).1 (fun e => by injection e with e; omega)]; exact ho
theorem other_of {w : World} {g : Nat} {cs : Array Value} {t : TypeId} (h : w.heap[g]? = some (.cells cs t (0, 0))) (ht : t ≠ 74) : Other w (some g) := by
  intro k hk cur hc
  injection hk with hk
  subst hk
  rw [h] at hc
  injection hc with hc
  injection hc with _ hc
  exact ht hc
theorem precells_two (L : List Int) (p : Option Tok) : ∃ x3 x4, precells L p = [x3, x4] := by cases p <;> exact ⟨_, _, rfl⟩
theorem ref_block {w w' : World} {g : Nat} {cs : Array Value} {row : Option Nat} (h : w.heap[g]? = some (.cells cs 74 (0, 0))) (hg : w.grownBy w' row) (ho : Other w row) : w'.heap[g]? = some (.cells cs 74 (0, 0)) :=
  (hg.block g (Array.getElem?_eq_some_iff.1 h).1 (fun e => ho g e.symm cs h)).trans h
theorem OwnP.own {L : List Int} {w : World} {base : Nat} {v : Value} {ps : List Y.Prd} (h : OwnP L w base v ps) : ∃ xs, w.ownsRow base 102 5 v ps.length xs := by
  obtain ⟨qs, _, h2, _⟩ := h; exact ⟨_, h2⟩
theorem OwnD.own {L : List Int} {w : World} {base : Nat} {v : Value} {ds : List Y.Dcl} (h : OwnD L w base v ds) : ∃ xs, w.ownsRow base 99 2 v ds.length xs := by
  obtain ⟨qs, _, h2, _⟩ := h; exact ⟨_, h2⟩
theorem OwnP.other {L : List Int} {w : World} {base : Nat} {v : Value} {ps : List Y.Prd} (h : OwnP L w base v ps) : Other w v.ownBlock := by
  obtain ⟨xs, h2⟩ := h.own; exact own_other h2 (by decide)
theorem OwnD.other {L : List Int} {w : World} {base : Nat} {v : Value} {ds : List Y.Dcl} (h : OwnD L w base v ds) : Other w v.ownBlock := by
  obtain ⟨xs, h2⟩ := h.own; exact own_other h2 (by decide)
theorem drop_len (p : Tok → Bool) : ∀ ts : List Tok, (ts.dropWhile p).length ≤ ts.length
  | [] => Nat.le_refl _
  | t :: r => by
    have := drop_len p r
    rw [List.dropWhile_cons]
    split
    · simp; omega
    · exact Nat.le_refl _
theorem rule_len {left : Tok} {ts r : List Tok} {p : Y.Prd} (h : Y.rule left ts = .ok p r) : r.length ≤ ts.length := by
  unfold Y.rule Y.rule2 at h
  have hd := drop_len Y.isRef ts
  split at h
  · obtain ⟨t, m, h1, h2⟩ := Y.bind_eq_ok h
    obtain ⟨u, m2, h3, h4⟩ := Y.bind_eq_ok h2
    injection h4 with _ h5
    subst h5
    have e1 := congrArg List.length (Y.take_ok h1).1
    have e2 := congrArg List.length (Y.take_ok h3).1
    simp at e1 e2
    omega
  · injection h with _ h5
    subst h5
    exact hd
/-- A block of five, of two cells that is stored whole. -/
theorem store5 {w : World} {g : Nat} {t : TypeId} {a0 a1 a2 a3 a4 : Value} (h : w.heap[g]? = some (.cells #[a0, a1, a2, a3, a4] t (0, 0))) (b0 b1 b2 b3 b4 : Value) :
    (((((w.setCell ⟨g, 0, none⟩ b0).setCell ⟨g, 1, none⟩ b1).setCell ⟨g, 2, none⟩ b2).setCell ⟨g, 3, none⟩ b3).setCell ⟨g, 4, none⟩ b4).heap[g]? = some (.cells #[b0, b1, b2, b3, b4] t (0, 0)) := by
  have h0 := heap_setCell_same w g 0 _ _ b0 h
  have h1 := heap_setCell_same _ g 1 _ _ b1 h0
  have h2 := heap_setCell_same _ g 2 _ _ b2 h1
  have h3 := heap_setCell_same _ g 3 _ _ b3 h2
  have h4 := heap_setCell_same _ g 4 _ _ b4 h3
  exact h4
theorem store2 {w : World} {g : Nat} {t : TypeId} {a0 a1 : Value} (h : w.heap[g]? = some (.cells #[a0, a1] t (0, 0))) (b0 b1 : Value) :
    ((w.setCell ⟨g, 0, none⟩ b0).setCell ⟨g, 1, none⟩ b1).heap[g]? = some (.cells #[b0, b1] t (0, 0)) := by
  have h0 := heap_setCell_same w g 0 _ _ b0 h
  have h1 := heap_setCell_same _ g 1 _ _ b1 h0
  exact h1
theorem size_set (w : World) (p : Addr) (u : Value) : (w.setCell p u).heap.size = w.heap.size := by simp [World.setCell]
end Go.Proofs.YtoehbkgdodogkaaGreat
