/- Words for memory: maps that the call makes, as lists of keys and elements in the order in which they were stored. -/
import Derived.Test.YtoehbkgdodogkaaGreatShared
import Derived.Maps.OwnSet
import Derived.Test.YtoehbkgdodogkaaGreatKD
namespace Go.Mw
open Go.RowKit Go.Maps

/-- How keys are written as values. -/
structure Enc (P : Program) (kt : TypeId) (κ : Type) where
  enc : κ → Value
  ok : κ → Prop
  key : ∀ x, ok x → ∃ l, keyOf P kt (enc x) = some l
  inj : ∀ x y, ok x → ok y → enc x = enc y → x = y

section
variable {κ : Type} [DecidableEq κ] {α : Type}
/-- A key's element. -/
def asc : List (κ × α) → κ → Option α
  | [], _ => none
  | (k, v) :: r, x => if k = x then some v else asc r x
theorem asc_none {l : List (κ × α)} {x : κ} : asc l x = none ↔ ∀ p ∈ l, p.1 ≠ x := by
  induction l with
  | nil => simp [asc]
  | cons p r ih =>
    obtain ⟨k, v⟩ := p
    unfold asc
    by_cases h : k = x
    · rw [if_pos h]; simp [h]
    · rw [if_neg h, ih]; simp [h]
theorem asc_mem {l : List (κ × α)} {x : κ} {v : α} (h : asc l x = some v) : (x, v) ∈ l := by
  induction l with
  | nil => simp [asc] at h
  | cons p r ih =>
    obtain ⟨k, u⟩ := p
    unfold asc at h
    by_cases hk : k = x
    · rw [if_pos hk] at h; injection h with h; subst h hk; simp
    · rw [if_neg hk] at h; exact List.mem_cons_of_mem _ (ih h)
theorem asc_of_mem {l : List (κ × α)} {x : κ} {v : α} (hn : (l.map Prod.fst).Nodup) (h : (x, v) ∈ l) : asc l x = some v := by
  induction l with
  | nil => simp at h
  | cons p r ih =>
    obtain ⟨k, u⟩ := p
    rw [List.map_cons, List.nodup_cons] at hn
    unfold asc
    rcases List.mem_cons.1 h with e | e
    · injection e with e1 e2; subst e1 e2; rw [if_pos rfl]
    · have : k ≠ x := fun q => hn.1 (by rw [q]; exact List.mem_map.2 ⟨(x, v), e, rfl⟩)
      rw [if_neg this]; exact ih hn.2 e
theorem asc_snoc {l : List (κ × α)} {k x : κ} {v : α} (h : asc l k = none) : asc (l ++ [(k, v)]) x = if k = x then some v else asc l x := by
  induction l with
  | nil => simp [asc]
  | cons p r ih =>
    obtain ⟨k', u⟩ := p
    unfold asc at h
    split at h
    · cases h
    · rename_i hk
      rw [List.cons_append]
      show (if k' = x then some u else asc (r ++ [(k, v)]) x) = if k = x then some v else if k' = x then some u else asc r x
      rw [ih h]
      by_cases h1 : k' = x
      · rw [if_pos h1, if_pos h1, if_neg (fun e => hk (h1.trans e.symm))]
      · rw [if_neg h1, if_neg h1]
end

section
variable {P : Program} {kt : TypeId} {κ : Type}
/-- Block b is a map with these keys and elements. -/
def MapIs (E : Enc P kt κ) (w : World) (b : Nat) (l : List (κ × Value)) : Prop :=
  ∃ es clock, w.heap[b]? = some (.map es clock) ∧ es.toList.map (fun e => (e.key, e.val)) = l.map (fun p => (E.enc p.1, p.2)) ∧ (∀ p ∈ l, E.ok p.1) ∧ (l.map Prod.fst).Nodup
variable {E : Enc P kt κ} {w : World} {b : Nat} {l : List (κ × Value)}
theorem MapIs.made (E : Enc P kt κ) (w : World) : MapIs E (w.alloc (.map #[] 0)) w.heap.size [] :=
  ⟨#[], 0, (MapKept.heap_alloc w _).1, rfl, by simp, by simp⟩
theorem MapIs.lt (h : MapIs E w b l) : b < w.heap.size := by
  obtain ⟨es, clock, hb, _⟩ := h
  exact (Array.getElem?_eq_some_iff.1 hb).1
theorem MapIs.kept {w' : World} {row : Option Nat} (h : MapIs E w b l) (hg : w.grownBy w' row) (hne : some b ≠ row) : MapIs E w' b l := by
  have hlt := h.lt
  obtain ⟨es, clock, hb, r⟩ := h
  exact ⟨es, clock, (hg.block b hlt hne).trans hb, r⟩
theorem MapIs.block {w' : World} (h : MapIs E w b l) (hg : w'.heap[b]? = w.heap[b]?) : MapIs E w' b l := by
  obtain ⟨es, clock, hb, r⟩ := h
  exact ⟨es, clock, hg.trans hb, r⟩
theorem MapIs.not_cells (h : MapIs E w b l) {cs : Array Value} {t : TypeId} {f : Nat × Nat} : w.heap[b]? ≠ some (.cells cs t f) := by
  obtain ⟨es, clock, hb, _⟩ := h
  rw [hb]; intro e; cases e

/-- How many. -/
theorem run_len {t e : TypeId} (h : MapIs E w b l) (ht : P.underlying t = some (.map kt e)) (ty : TypeId) : (Builtin.len_ #[t] ty #[.map (some b)]).run P w = .ok (.int .i64 (l.length : Nat)) w := by
  obtain ⟨es, clock, hb, he, _⟩ := h
  have e1 : es.size = l.length := by have := congrArg List.length he; simpa using this
  simp [Builtin.len_, run_underlying ht, MapKept.run_getObj_map hb, goInt, Result.andThen, e1]
variable [DecidableEq κ]
theorem find_in (h : MapIs E w b l) (K : Keyed P kt) {x : κ} (hx : E.ok x) : ∃ es clock, w.heap[b]? = some (.map es clock) ∧ es.toList.map (fun e => (e.key, e.val)) = l.map (fun p => (E.enc p.1, p.2)) ∧
    (((Instr.findKey kt (E.enc x) es.toList).run P w = .ok none w ∧ asc l x = none) ∨ ∃ (j : Nat) (e : MapEntry), (Instr.findKey kt (E.enc x) es.toList).run P w = .ok (some (j, e.val)) w ∧ es.toList[j]? = some e ∧ e.key = E.enc x ∧ asc l x = some e.val ∧ l[j]? = some (x, e.val)) := by
  obtain ⟨es, clock, hb, he, hk, hn⟩ := h
  refine ⟨es, clock, hb, he, ?_⟩
  obtain ⟨lx, hlx⟩ := E.key x hx
  have hkeys : ∀ e ∈ es.toList, ∃ l, keyOf P kt e.key = some l := by
    intro e hm
    have : (e.key, e.val) ∈ es.toList.map (fun e => (e.key, e.val)) := List.mem_map.2 ⟨e, hm, rfl⟩
    rw [he] at this
    obtain ⟨p, hp, e1⟩ := List.mem_map.1 this
    injection e1 with e1 _
    rw [← e1]
    exact E.key p.1 (hk p hp)
  rcases K.find w hlx es.toList hkeys with ⟨h1, h2⟩ | ⟨j, e, h1, h2, h3⟩
  · refine .inl ⟨h1, asc_none.2 fun p hp q => ?_⟩
    have : (E.enc p.1, p.2) ∈ es.toList.map (fun e => (e.key, e.val)) := by rw [he]; exact List.mem_map.2 ⟨p, hp, rfl⟩
    obtain ⟨e, hm, e1⟩ := List.mem_map.1 this
    injection e1 with e1 _
    exact h2 e hm (by rw [e1, q])
  · refine .inr ⟨j, e, h1, h2, h3, ?_⟩
    have hj : (es.toList.map (fun e => (e.key, e.val)))[j]? = some (e.key, e.val) := by rw [List.getElem?_map, h2]; rfl
    rw [he, List.getElem?_map] at hj
    obtain ⟨p, hp, e1⟩ := Option.map_eq_some_iff.1 hj
    injection e1 with e1 e2
    have hpm : p ∈ l := List.mem_of_getElem? hp
    have hpx : p.1 = x := E.inj _ _ (hk p hpm) hx (e1.trans h3)
    have hpe : p = (x, e.val) := by rw [← hpx, ← e2]
    rw [hpe] at hp hpm
    exact ⟨asc_of_mem hn hpm, hp⟩

/-- A look-up. -/
theorem run_look {t e : TypeId} (h : MapIs E w b l) (K : Keyed P kt) (ht : P.underlying t = some (.map kt e)) {z : Value} (hz : (zeroValue e).run P w = .ok z w) {x : κ} (hx : E.ok x) (c : Bool) :
    (Instr.lookup t (.map (some b)) (E.enc x) c).run P w = .ok (if c then .tuple #[(asc l x).getD z, .bool (asc l x).isSome] else (asc l x).getD z) w := by
  obtain ⟨lx, hlx⟩ := E.key x hx
  obtain ⟨es, clock, hb, _, hf⟩ := find_in h K hx
  rcases hf with ⟨h1, h2⟩ | ⟨j, e0, h1, _, _, h2, _⟩
  · rw [h2]
    simp [Instr.lookup, run_underlying ht, MapKept.run_getObj_map hb, K.check w _ hlx, h1, hz, Result.andThen]
  · rw [h2]
    simp [Instr.lookup, run_underlying ht, MapKept.run_getObj_map hb, K.check w _ hlx, h1, Result.andThen]
/-- A store. -/
theorem run_store {t e : TypeId} (h : MapIs E w b l) (K : Keyed P kt) (ht : P.underlying t = some (.map kt e)) {x : κ} (hx : E.ok x) (v : Value) (hv : asc l x = none ∨ asc l x = some v) :
    ∃ w', (Instr.mapUpdate t (.map (some b)) (E.enc x) v).run P w = .ok () w' ∧ MapIs E w' b (if asc l x = none then l ++ [(x, v)] else l) ∧ w.grownBy w' (some b) := by
  obtain ⟨lx, hlx⟩ := E.key x hx
  have h0 := h
  obtain ⟨es, clock, hb, he, hf⟩ := find_in h K hx
  obtain ⟨es0, clock0, hb0, he0, hk, hn⟩ := h0
  rw [hb] at hb0
  injection hb0 with hb0
  injection hb0 with hb0 hb1
  subst hb0 hb1
  rcases hf with ⟨h1, h2⟩ | ⟨j, e0, h1, h2, h3, h4, h5⟩
  · rw [if_pos h2]
    refine ⟨ChangeMaps.setBlock w b (.map (es.push ⟨E.enc x, v, clock⟩) (clock + 1)), ?_, ⟨_, _, ChangeMaps.heap_setBlock_same hb _, ?_, ?_, ?_⟩, ⟨rfl, rfl, rfl, by simp [ChangeMaps.setBlock], fun i _ hi => ChangeMaps.heap_setBlock_other hb _ (fun e => hi (by rw [e]))⟩⟩
    · simp [Instr.mapUpdate, run_underlying ht, MapKept.run_getObj_map hb, K.check w false hlx, h1, MapKept.run_setObj_map _ hb, Result.andThen, ChangeMaps.setBlock]
    · rw [Array.toList_push, List.map_append, List.map_append, he]; rfl
    · intro p hp
      rcases List.mem_append.1 hp with q | q
      · exact hk p q
      · rw [List.mem_singleton] at q; subst q; exact hx
    · rw [List.map_append, List.nodup_append]
      refine ⟨hn, by simp, fun a ha c hc => ?_⟩
      obtain ⟨p, hp, rfl⟩ := List.mem_map.1 ha
      simp only [List.map_cons, List.map_nil, List.mem_singleton] at hc
      subst hc
      exact asc_none.1 h2 p hp
  · have hve : v = e0.val := by
      rcases hv with q | q
      · rw [h4] at q; cases q
      · rw [h4] at q; injection q with q; exact q.symm
    rw [if_neg (by rw [h4]; simp)]
    have hj : es[j]? = some e0 := by simpa using h2
    have hmod : (es.modify j (fun e => { e with key := E.enc x, val := v })).toList.map (fun e => (e.key, e.val)) = es.toList.map (fun e => (e.key, e.val)) := by
      rw [Array.toList_modify, ChangeMaps.modify_eq_set _ _ _ _ h2, List.map_set]
      have hjl : j < (es.toList.map (fun e => (e.key, e.val))).length := by rw [List.length_map]; exact (List.getElem?_eq_some_iff.1 h2).1
      apply List.ext_getElem?
      intro i
      rw [List.getElem?_set]
      by_cases hij : j = i
      · subst hij
        rw [if_pos rfl, if_pos hjl, List.getElem?_map, h2, ← h3, hve]
        rfl
      · rw [if_neg hij]
    refine ⟨ChangeMaps.setBlock w b (.map (es.modify j (fun e => { e with key := E.enc x, val := v })) clock), ?_, ⟨_, _, ChangeMaps.heap_setBlock_same hb _, hmod.trans he, hk, hn⟩, ⟨rfl, rfl, rfl, by simp [ChangeMaps.setBlock], fun i _ hi => ChangeMaps.heap_setBlock_other hb _ (fun e => hi (by rw [e]))⟩⟩
    simp [Instr.mapUpdate, run_underlying ht, MapKept.run_getObj_map hb, K.check w false hlx, h1, hj, h3, K.stays w hlx, MapKept.run_setObj_map _ hb, Result.andThen, ChangeMaps.setBlock]
end

/-- A store at the operation. -/
theorem wpList_store {P : Program} {w : World} {ops : Array Oper} {rest : List Oper} {o : Oper} {a : Act} {Q : Exit → Act → World → Prop}
    (hg : o.guard = none) (m x v : Operand) (t : TypeId) (hop : o.op = Op.mapUpdate t m x v) {mv xv vv : Value} {R : World → Prop} (h : ∃ w', (Instr.mapUpdate t mv xv vv).run P w = .ok () w' ∧ R w') (hm : a.eval m = mv) (hx : a.eval x = xv) (hv : a.eval v = vv)
    (hK : ∀ w', R w' → wpList P ops Q rest (a.put o.dst undef) w') : wpList P ops Q (o :: rest) a w := by
  refine wpList_plain hg fun K' hK' => ?_
  obtain ⟨w', hrun, hR⟩ := h
  unfold Oper.wp
  simp [execOp, hop, hm, hx, hv, hrun, Result.andThen]
  exact hK' _ _ (hK w' hR)
end Go.Mw

namespace Go.Proofs.YtoehbkgdodogkaaGreat
end Go.Proofs.YtoehbkgdodogkaaGreat

/- Contracts over this program: whether the names of a grammar may be, by cfg's own function, which keeps them in a map. -/
namespace Go.Proofs.YtoehbkgdodogkaaGreat
set_option maxRecDepth 100000
open Go.RowKit

/-- Texts as keys. -/
def strE : Mw.Enc Tryz.prog 9 (List Int) where
  enc s := .string (K.str s)
  ok := K.Tx
  key s h := ⟨_, Go.WideMaps.keyOf_string_mk Tryz.underlying9 (by rw [K.str_size]; unfold maxLen; exact h.2)⟩
  inj x y hx hy h := by injection h with h; exact (K.str_eq hx.1 hy.1).1 h
theorem strK : Maps.Keyed Tryz.prog 9 := Maps.string_keyed Tryz.underlying9

theorem isSpelt_any (s : List Int) (hs : K.Tx s) (w : World) :
    Calls Tryz.prog 32 #[.string (K.str s)] w fun e w' => e = .returned (.bool (Gm.named s)) ∧ Below w.heap.size w w' := by
  have HN := hide (fun w => name_any s hs.1 w)
  have HL := hide (fun w => lit_any s hs.1 hs.2 w)
  unfold Gm.named
  clear hs
  cases q : T.isName s
  · rw [q] at HN
    clear q
    generalize T.isLit s = b at *
    go_enter Tryz.func32, Tryz.ntmps32
    go_wp2_with fail
    refine (HN.out _).mono ?_; rintro _ w1 ⟨rfl, hb⟩
    have HB := hide hb
    clear hb
    go_wp2_with fail
    refine (HL.out _).mono ?_; rintro _ _ ⟨rfl, rfl⟩
    go_wp2
    go_ret
    exact ⟨ret_bool (by simp), HB.out⟩
  · rw [q] at HN
    clear q
    go_enter Tryz.func32, Tryz.ntmps32
    go_wp2_with fail
    refine (HN.out _).mono ?_; rintro _ w1 ⟨rfl, hb⟩
    have HB := hide hb
    clear hb
    go_wp2
    go_ret
    exact ⟨ret_bool (by simp), HB.out⟩

/-- The different ones among texts, in the order in which they come. -/
def dd : List (List Int) → List (List Int) → List (List Int)
  | acc, [] => acc
  | acc, s :: r => dd (if s ∈ acc then acc else acc ++ [s]) r
theorem dd_snoc (acc l : List (List Int)) (s : List Int) : dd acc (l ++ [s]) = if s ∈ dd acc l then dd acc l else dd acc l ++ [s] := by
  induction l generalizing acc with
  | nil => rfl
  | cons x r ih => rw [List.cons_append, dd, dd, ih]
theorem dd_len (acc l : List (List Int)) (hn : acc.Nodup) : (dd acc l).length ≤ acc.length + l.length ∧ ((dd acc l).length = acc.length + l.length ↔ (acc ++ l).Nodup) := by
  induction l generalizing acc with
  | nil => simp [dd, hn]
  | cons x r ih =>
    rw [dd]
    by_cases hx : x ∈ acc
    · rw [if_pos hx]
      have := (ih acc hn).1
      refine ⟨by rw [List.length_cons]; omega, ⟨fun e => by rw [List.length_cons] at e; omega, fun h => ?_⟩⟩
      rw [List.nodup_append] at h
      exact absurd rfl (h.2.2 x hx x (by simp))
    · rw [if_neg hx]
      have hn' : (acc ++ [x]).Nodup := by
        rw [List.nodup_append]
        exact ⟨hn, by simp, fun a ha b hb e => by rw [List.mem_singleton] at hb; subst hb e; exact hx ha⟩
      have := ih (acc ++ [x]) hn'
      rw [List.length_append, List.length_singleton, List.append_assoc, List.singleton_append] at this
      refine ⟨by have := this.1; rw [List.length_cons]; omega, ?_⟩
      rw [← this.2, List.length_cons]
      omega
/-- The map of all names so far. -/
def nmL (l : List (List Int)) : List (List Int × Value) := (dd [] l).map fun s => (s, .bool true)
theorem asc_nmL (l : List (List Int)) (s : List Int) : Mw.asc (nmL l) s = if s ∈ dd [] l then some (.bool true) else none := by
  unfold nmL
  generalize dd [] l = m
  induction m with
  | nil => rfl
  | cons x r ih =>
    rw [List.map_cons, Mw.asc, ih]
    by_cases h : x = s
    · subst h; simp
    · rw [if_neg h]
      have : s ≠ x := fun e => h e.symm
      simp [this]
theorem nmL_snoc (l : List (List Int)) (s : List Int) : (if Mw.asc (nmL l) s = none then nmL l ++ [(s, .bool true)] else nmL l) = nmL (l ++ [s]) := by
  rw [asc_nmL]
  unfold nmL
  rw [dd_snoc]
  by_cases h : s ∈ dd [] l
  · rw [if_pos h, if_pos h]; rfl
  · rw [if_neg h, if_neg h, if_pos rfl, List.map_append]; rfl
theorem asc_nm (l : List (List Int)) (s : List Int) : Mw.asc (nmL l) s = none ∨ Mw.asc (nmL l) s = some (.bool true) := by
  rw [asc_nmL]
  split
  · exact .inr rfl
  · exact .inl rfl

/-- May the names be? -/
def rnB (G : Gm.Gr) : Bool := decide (G.ts.length ≤ 24) && decide (1 ≤ G.ns.length) && decide (G.ns.length ≤ 16) && (G.ts.all fun t => Gm.named t.nm) && (G.ns.all T.isName) && decide ((nmL (Gm.names G.ts ++ G.ns)).length = G.ts.length + G.ns.length)
theorem rn_t {G : Gm.Gr} {k : Nat} (h : k < G.ts.length) (hn : Gm.named G.ts[k].nm = false) : rnB G = false := by
  unfold rnB
  have : (G.ts.all fun t => Gm.named t.nm) = false := List.all_eq_false.2 ⟨_, List.getElem_mem h, by rw [hn]; simp⟩
  rw [this]; simp
theorem rn_n {G : Gm.Gr} {k : Nat} (h : k < G.ns.length) (hn : T.isName G.ns[k] = false) : rnB G = false := by
  unfold rnB
  have : (G.ns.all T.isName) = false := List.all_eq_false.2 ⟨_, List.getElem_mem h, by rw [hn]; simp⟩
  rw [this]; simp
/-- The first k of a list are well. -/
def AllK {α : Type} (l : List α) (f : α → Bool) (k : Nat) : Prop := ∀ i (h : i < l.length), i < k → f l[i] = true
theorem AllK.zero {α : Type} (l : List α) (f : α → Bool) : AllK l f 0 := fun _ _ h => by omega
theorem AllK.next {α : Type} {l : List α} {f : α → Bool} {k : Nat} (h : AllK l f k) (hk : k < l.length) (hn : f l[k] = true) : AllK l f (k + 1) := fun i hi hik => by
  rcases Nat.lt_or_ge i k with q | q
  · exact h i hi q
  · obtain rfl : i = k := by omega
    exact hn
theorem AllK.all {α : Type} {l : List α} {f : α → Bool} (h : AllK l f l.length) : l.all f = true := by
  rw [List.all_eq_true]
  intro x hx
  obtain ⟨i, hi, rfl⟩ := List.getElem_of_mem hx
  exact h i hi hi
theorem take_next {α : Type} {l : List α} {k : Nat} (h : k < l.length) : l.take (k + 1) = l.take k ++ [l[k]] := List.take_succ_eq_append_getElem h

set_option maxHeartbeats 4000000 in
theorem rightNames_any (v : Value) (G : Gm.Gr) (B : Nat) (w : World) (hg : RdGr w B v G) (hf : Gm.Fit G) (hB : B ≤ w.heap.size) :
    Calls Tryz.prog 18 #[v] w fun e w' => e = .returned (.bool (rnB G)) ∧ Below w.heap.size w w' := by
  obtain ⟨AT, cT, AN, cN, AR, cR, rfl, ⟨hlT, hmT⟩, ⟨hlN, hmN⟩, _, ht, hn, _⟩ := hg
  have HT := hide ht
  have HN := hide hn
  have HF := hide hf
  have HS0 := hide (One.start w #[.slice AT G.ts.length cT, .slice AN G.ns.length cN, .slice AR G.rs.length cR, .int .i64 G.st])
  have hlenT : (G.ts.length : Int) ≤ 9223372036854775807 := by omega
  have hlenN : (G.ns.length : Int) ≤ 9223372036854775807 := by omega
  clear ht hn hf
  by_cases h24 : 24 < G.ts.length
  · have HX : Hid (rnB G = false) := hide (by unfold rnB; rw [decide_eq_false (show ¬ G.ts.length ≤ 24 by omega)]; rfl)
    rw [HX.out]
    go_enter Tryz.func18, Tryz.ntmps18
    go_wp2
    go_ret
    exact ⟨rfl, HS0.out.below⟩
  by_cases h0 : G.ns.length < 1
  · have HX : Hid (rnB G = false) := hide (by unfold rnB; rw [decide_eq_false (show ¬ 1 ≤ G.ns.length by omega)]; simp)
    have e0 : ((G.ns.length : Int) == 0) = true := beq_iff_eq.2 (by omega)
    rw [HX.out]
    clear h0
    go_enter Tryz.func18, Tryz.ntmps18
    go_wp2
    go_ret
    exact ⟨rfl, HS0.out.below⟩
  have e0 : ((G.ns.length : Int) == 0) = false := beq_eq_false_iff_ne.2 (by omega)
  by_cases h16 : 16 < G.ns.length
  · have HX : Hid (rnB G = false) := hide (by unfold rnB; rw [decide_eq_false (show ¬ G.ns.length ≤ 16 by omega)]; simp)
    rw [HX.out]
    clear h0
    go_enter Tryz.func18, Tryz.ntmps18
    go_wp2
    go_ret
    exact ⟨rfl, HS0.out.below⟩
  clear h0
  have hmm := @run_makeMap Tryz.prog
  have HM0 := hide (Mw.MapIs.made strE (w.alloc (.cells #[.slice AT G.ts.length cT, .slice AN G.ns.length cN, .slice AR G.rs.length cR, .int .i64 G.st] 26)))
  have hs1 : (w.alloc (.cells #[.slice AT G.ts.length cT, .slice AN G.ns.length cN, .slice AR G.rs.length cR, .int .i64 G.st] 26)).heap.size = w.heap.size + 1 := by simp
  rw [hs1] at HM0
  have HS1 := hide (HS0.out.alloc (.map #[] 0))
  clear hs1
  go_enter Tryz.func18, Tryz.ntmps18
  go_wp2
  go_loopw [28] (fun vi wr => ∃ (k : Nat), k ≤ G.ts.length ∧ vi = .int .i64 k ∧ Hid (AllK G.ts (fun t => Gm.named t.nm) k) ∧ One w #[.slice AT G.ts.length cT, .slice AN G.ns.length cN, .slice AR G.rs.length cR, .int .i64 G.st] wr ∧ Hid (Mw.MapIs strE wr (w.heap.size + 1) (nmL (Gm.names (G.ts.take k))))) (fun vi _ => G.ts.length - (intOf vi).toNat)
  case atStart => exact ⟨0, Nat.zero_le _, rfl, hide (AllK.zero _ _), HS1.out, HM0⟩
  case round =>
    obtain ⟨k, hk, rfl, HA, hb, HM⟩ := hrel
    have HB := hide hb
    have hz : w.heap.size < wr.heap.size := hb.size
    have hz1 : w.heap.size + 1 < wr.heap.size := HM.out.lt
    have hbw := hb.below
    have q1 := hb.c 1 _ rfl
    clear hb
    by_cases hlt : k < G.ts.length
    · obtain ⟨g, o, rfl, hgb, hc⟩ := HT.out (by omega)
      have k0 := (hbw.cell (p := ⟨g, o + k * 3, none⟩) (Nat.lt_of_lt_of_le hgb hB)).trans (hc k hlt).1
      have k1 := (hbw.cell (p := ⟨g, o + k * 3 + 1, none⟩) (Nat.lt_of_lt_of_le hgb hB)).trans (hc k hlt).2.1
      have k2 := (hbw.cell (p := ⟨g, o + k * 3 + 2, none⟩) (Nat.lt_of_lt_of_le hgb hB)).trans (hc k hlt).2.2
      have hgs : g < wr.heap.size := by omega
      have hft := (HF.out.t _ (List.getElem_mem hlt)).1
      have HNM := hide (fun x => isSpelt_any _ hft x)
      have HTX := hide hft
      have HA' := hide (fun h => HA.out.next hlt h)
      have HNO := hide (fun h => rn_t hlt h)
      have HNX : Hid (nmL (Gm.names (G.ts.take k) ++ [G.ts[k].nm]) = nmL (Gm.names (G.ts.take (k + 1)))) := hide (by rw [take_next hlt]; unfold Gm.names; rw [List.map_append]; rfl)
      clear hc hbw hft
      generalize G.ts[k].nm = nm at *
      generalize G.ts[k].lv = lv at *
      generalize G.ts[k].wy = wy at *
      cases q : Gm.named nm
      · have HX := hide (HNO.out q)
        rw [q] at HNM
        clear q
        go_wp2_with fail
        refine (HNM.out _).mono ?_; rintro _ w2 ⟨rfl, hb2⟩
        have HB2 := hide ((HB.out.alloc _).on hb2)
        clear hb2
        go_wp2
        go_ret
        exact ⟨ret_bool HX.out.symm, HB2.out.below⟩
      · have HX := hide (HA'.out q)
        rw [q] at HNM
        clear q
        go_wp2_with fail
        refine (HNM.out _).mono ?_; rintro _ w2 ⟨rfl, hb2⟩
        have HB2 := hide ((HB.out.alloc _).on hb2)
        have hbb := (hb2.block wr.heap.size (by simp)).trans (heap_alloc_new wr _)
        have hz2 : wr.heap.size < w2.heap.size := (Array.getElem?_eq_some_iff.1 hbb).1
        have f0 := cell_of_row w2 _ 0 _ _ _ hbb
        have HM2 := hide ((HM.out.kept (World.grownBy_alloc wr _ none) (by simp)).kept (only_below hb2 none) (by simp))
        clear hb2 hbb
        have HST := hide (Mw.run_store (x := nm) HM2.out strK Tryz.underlying62 HTX.out (.bool true) (asc_nm _ _))
        go_wp2_with (at_mapUpdate; refine Mw.wpList_store rfl _ _ _ _ rfl HST.out rfl rfl rfl ?_; rintro w3 ⟨hm3, hg3⟩)
        have HB3 := hide (Below.grown HB2.out hg3 HB2.out.size (fun k e => by injection e with e; omega))
        have HM3 : Hid (Mw.MapIs strE w3 (w.heap.size + 1) (nmL (Gm.names (G.ts.take (k + 1))))) := hide (by rw [← HNX.out, ← nmL_snoc]; exact hm3)
        clear hm3 hg3
        go_roundw
        case rel => exact ⟨k + 1, by omega, by go_num, HX, HB3.out, HM3⟩
        case measure => simp [intOf]; omega
    · obtain rfl : k = G.ts.length := by omega
      have HA1 := hide HA.out.all
      have HM1 : Hid (Mw.MapIs strE wr (w.heap.size + 1) (nmL (Gm.names G.ts ++ G.ns.take 0))) := hide (by have h := HM.out; rw [List.take_length] at h; rw [List.take_zero, List.append_nil]; exact h)
      clear hbw hk hlt HA HM
      go_wp2
      go_loopw [43] (fun vi wr => ∃ (k : Nat), k ≤ G.ns.length ∧ vi = .int .i64 k ∧ Hid (AllK G.ns T.isName k) ∧ One w #[.slice AT G.ts.length cT, .slice AN G.ns.length cN, .slice AR G.rs.length cR, .int .i64 G.st] wr ∧ Hid (Mw.MapIs strE wr (w.heap.size + 1) (nmL (Gm.names G.ts ++ G.ns.take k)))) (fun vi _ => G.ns.length - (intOf vi).toNat)
      case atStart => exact ⟨0, Nat.zero_le _, rfl, hide (AllK.zero _ _), HB.out, HM1⟩
      case round =>
        clear q1 hz hz1 HB HM1
        obtain ⟨k, hk, rfl, HA, hb, HM⟩ := hrel
        have HB := hide hb
        have hz : w.heap.size < wr.heap.size := hb.size
        have hz1 : w.heap.size + 1 < wr.heap.size := HM.out.lt
        have hbw := hb.below
        have q0 := hb.c 0 _ rfl
        have q1 := hb.c 1 _ rfl
        clear hb
        by_cases hlt : k < G.ns.length
        · obtain ⟨g, o, rfl, hgb, hc⟩ := HN.out (by omega)
          have k0 := (hbw.cell (p := ⟨g, o + k, none⟩) (Nat.lt_of_lt_of_le hgb hB)).trans (hc k hlt)
          have hgs : g < wr.heap.size := by omega
          have hft := HF.out.n _ (List.getElem_mem hlt)
          have HNM := hide (fun x => name_any _ hft.1 x)
          have HTX := hide hft
          have HA' := hide (fun h => HA.out.next hlt h)
          have HNO := hide (fun h => rn_n hlt h)
          have HNX : Hid (nmL (Gm.names G.ts ++ G.ns.take k ++ [G.ns[k]]) = nmL (Gm.names G.ts ++ G.ns.take (k + 1))) := hide (by rw [take_next hlt, List.append_assoc])
          obtain ⟨s, qs⟩ : ∃ t, t = G.ns[k] := ⟨_, rfl⟩
          rw [← qs] at k0 HNM HTX HA' HNO HNX
          clear hc hbw hft qs
          cases q : T.isName s
          · have HX := hide (HNO.out q)
            rw [q] at HNM
            clear q
            go_wp2_with fail
            refine (HNM.out _).mono ?_; rintro _ w2 ⟨rfl, hb2⟩
            have HB2 := hide (HB.out.on hb2)
            clear hb2
            go_wp2
            go_ret
            exact ⟨ret_bool HX.out.symm, HB2.out.below⟩
          · have HX := hide (HA'.out q)
            rw [q] at HNM
            clear q
            go_wp2_with fail
            refine (HNM.out _).mono ?_; rintro _ w2 ⟨rfl, hb2⟩
            have HB2 := hide (HB.out.on hb2)
            have HM2 := hide (HM.out.kept (only_below hb2 none) (by simp))
            clear hb2
            have HST := hide (Mw.run_store (x := s) HM2.out strK Tryz.underlying62 HTX.out (.bool true) (asc_nm _ _))
            go_wp2_with (at_mapUpdate; refine Mw.wpList_store rfl _ _ _ _ rfl HST.out rfl rfl rfl ?_; rintro w3 ⟨hm3, hg3⟩)
            have HB3 := hide (Below.grown HB2.out hg3 HB2.out.size (fun k e => by injection e with e; omega))
            have HM3 : Hid (Mw.MapIs strE w3 (w.heap.size + 1) (nmL (Gm.names G.ts ++ G.ns.take (k + 1)))) := hide (by rw [← HNX.out, ← nmL_snoc]; exact hm3)
            clear hm3 hg3
            go_roundw
            case rel => exact ⟨k + 1, by omega, by go_num, HX, HB3.out, HM3⟩
            case measure => simp [intOf]; omega
        · obtain rfl : k = G.ns.length := by omega
          have HA2 := hide HA.out.all
          have HM1 : Hid (Mw.MapIs strE wr (w.heap.size + 1) (nmL (Gm.names G.ts ++ G.ns))) := hide (by have h := HM.out; rw [List.take_length] at h; exact h)
          have hL := Mw.run_len HM1.out Tryz.underlying62 3
          have HX : Hid (rnB G = (((nmL (Gm.names G.ts ++ G.ns)).length : Int) == (G.ts.length : Int) + (G.ns.length : Int))) := hide (by
            unfold rnB
            rw [HA1.out, HA2.out, decide_eq_true (show G.ts.length ≤ 24 by omega), decide_eq_true (show 1 ≤ G.ns.length by have := beq_eq_false_iff_ne.1 e0; omega), decide_eq_true (show G.ns.length ≤ 16 by omega)]
            simp only [Bool.true_and]
            rw [Bool.eq_iff_iff]
            simp only [decide_eq_true_eq, beq_iff_eq]
            omega)
          generalize (nmL (Gm.names G.ts ++ G.ns)).length = m at *
          clear hbw hk hlt HA HM HM1
          go_wp2_with (simp only [hL])
          go_ret
          exact ⟨ret_bool HX.out.symm, HB.out.below⟩
end Go.Proofs.YtoehbkgdodogkaaGreat

/- Contracts over this program: whether the levels of terminals may be, by cfg's own function, which keeps them in a map. -/
namespace Go.Proofs.YtoehbkgdodogkaaGreat
set_option maxRecDepth 100000
open Go.RowKit

/-- Numbers as keys. -/
def intE : Mw.Enc Tryz.prog 3 Int where
  enc z := .int .i64 z
  ok := Gm.In
  key z h := ⟨_, Maps.keyOf_int_mk Tryz.underlying3 (WalkArith.wf_i64 (by unfold Gm.In at h; omega))⟩
  inj x y _ _ h := by injection h
theorem intK : Maps.Keyed Tryz.prog 3 := Maps.int_keyed Tryz.underlying3

/-- May a terminal associate so? -/
def asB (t : Gm.Tm) : Bool := if t.wy = 0 then t.lv == 0 else if t.wy = 1 ∨ t.wy = 2 ∨ t.wy = 3 then decide (0 < t.lv) else false
theorem rightAssoc_any (t : Gm.Tm) (w : World) :
    Calls Tryz.prog 34 #[.agg #[.string (K.str t.nm), .int .i64 t.lv, .int .i64 t.wy]] w fun e w' => e = .returned (.bool (asB t)) ∧ Below w.heap.size w w' := by
  have HB := hide (fun o => (Below.refl w.heap.size w).alloc (Nat.le_refl _) o)
  obtain ⟨nm, lv, wy⟩ := t
  unfold asB
  simp only
  generalize K.str nm = s at *
  by_cases h0 : wy = 0
  · subst h0
    rw [if_pos rfl]
    go_enter Tryz.func34, Tryz.ntmps34
    go_wp2
    go_ret
    exact ⟨rfl, HB.out _⟩
  rw [if_neg h0]
  by_cases h1 : wy = 1
  · subst h1
    rw [if_pos (by simp)]
    go_enter Tryz.func34, Tryz.ntmps34
    go_wp2
    go_ret
    exact ⟨rfl, HB.out _⟩
  by_cases h2 : wy = 2
  · subst h2
    rw [if_pos (by simp)]
    go_enter Tryz.func34, Tryz.ntmps34
    go_wp2
    go_ret
    exact ⟨rfl, HB.out _⟩
  by_cases h3 : wy = 3
  · subst h3
    rw [if_pos (by simp)]
    go_enter Tryz.func34, Tryz.ntmps34
    go_wp2
    go_ret
    exact ⟨rfl, HB.out _⟩
  rw [if_neg (by omega)]
  have e0 : (wy == 0) = false := beq_eq_false_iff_ne.2 h0
  have e1 : (wy == 1) = false := beq_eq_false_iff_ne.2 h1
  have e2 : (wy == 2) = false := beq_eq_false_iff_ne.2 h2
  have e3 : (wy == 3) = false := beq_eq_false_iff_ne.2 h3
  go_enter Tryz.func34, Tryz.ntmps34
  go_wp2
  go_ret
  exact ⟨rfl, HB.out _⟩

def lvPut (m : List (Int × Int)) (t : Gm.Tm) : List (Int × Int) := if 0 < t.lv then (if Mw.asc m t.lv = none then m ++ [(t.lv, t.wy)] else m) else m
/-- May levels be, behind ones of which the map has these, and the greatest one is so? -/
def rlF : List Gm.Tm → List (Int × Int) → Int → Bool
  | [], m, g => (m.length : Int) == g
  | t :: r, m, g => if asB t = false then false else if (Mw.asc m t.lv).isSome = true ∧ (Mw.asc m t.lv).getD 0 ≠ t.wy then false else rlF r (lvPut m t) (max g t.lv)
theorem rlF_drop {ts : List Gm.Tm} {k : Nat} (h : k < ts.length) (m : List (Int × Int)) (g : Int) : rlF (ts.drop k) m g = if asB ts[k] = false then false else if (Mw.asc m ts[k].lv).isSome = true ∧ (Mw.asc m ts[k].lv).getD 0 ≠ ts[k].wy then false else rlF (ts.drop (k + 1)) (lvPut m ts[k]) (max g ts[k].lv) := by
  rw [List.drop_eq_getElem_cons h, rlF]
theorem rlF_end {ts : List Gm.Tm} {k : Nat} (h : ts.length ≤ k) (m : List (Int × Int)) (g : Int) : rlF (ts.drop k) m g = ((m.length : Int) == g) := by
  rw [List.drop_eq_nil_of_le h, rlF]
def lvL (m : List (Int × Int)) : List (Int × Value) := m.map fun p => (p.1, .int .i64 p.2)
theorem asc_lvL (m : List (Int × Int)) (z : Int) : Mw.asc (lvL m) z = (Mw.asc m z).map (fun y => .int .i64 y) := by
  unfold lvL
  induction m with
  | nil => rfl
  | cons p r ih =>
    obtain ⟨k, v⟩ := p
    rw [List.map_cons, Mw.asc, Mw.asc, ih]
    by_cases h : k = z
    · rw [if_pos h, if_pos h]; rfl
    · rw [if_neg h, if_neg h]
theorem lvL_look (m : List (Int × Int)) (z : Int) : (Mw.asc (lvL m) z).getD (.int .i64 0) = .int .i64 ((Mw.asc m z).getD 0) ∧ (Mw.asc (lvL m) z).isSome = (Mw.asc m z).isSome := by
  rw [asc_lvL]
  cases Mw.asc m z <;> exact ⟨rfl, rfl⟩
theorem zero_int (w : World) : (zeroValue 3).run Tryz.prog w = .ok (.int .i64 0) w := by kernel_rfl

set_option maxHeartbeats 4000000 in
theorem rightLevels_any (A : Option Addr) (c B : Nat) (ts : List Gm.Tm) (w : World) (ht : RdTm w B A ts) (hf : ∀ x ∈ ts, K.Tx x.nm ∧ Gm.In x.lv ∧ Gm.In x.wy) (hB : B ≤ w.heap.size) (hlen : (ts.length : Int) ≤ 9223372036854775807) :
    Calls Tryz.prog 19 #[.slice A ts.length c] w fun e w' => e = .returned (.bool (rlF ts [] 0)) ∧ Below w.heap.size w w' := by
  have HT := hide ht
  have HF := hide hf
  have hmm := @run_makeMap Tryz.prog
  have HM0 := hide (Mw.MapIs.made intE w)
  have HS0 := hide ((Below.refl w.heap.size w).alloc (Nat.le_refl _) (.map #[] 0))
  clear ht hf
  go_enter Tryz.func19, Tryz.ntmps19
  go_wp2
  go_loopw [4, 12] (fun vg vi wr => ∃ (k : Nat) (m : List (Int × Int)) (g : Int), k ≤ ts.length ∧ vi = .int .i64 k ∧ vg = .int .i64 g ∧ Hid (rlF ts [] 0 = rlF (ts.drop k) m g) ∧ Below w.heap.size w wr ∧ Hid (Mw.MapIs intE wr w.heap.size (lvL m))) (fun _ vi _ => ts.length - (intOf vi).toNat)
  case atStart => exact ⟨0, [], 0, Nat.zero_le _, rfl, rfl, hide rfl, HS0.out, HM0⟩
  case round =>
    obtain ⟨k, m, g, hk, rfl, rfl, HE, hb, HM⟩ := hrel
    have HB := hide hb
    have hz : w.heap.size < wr.heap.size := HM.out.lt
    by_cases hlt : k < ts.length
    · obtain ⟨gb, o, rfl, hgb, hc⟩ := HT.out (by omega)
      have k0 := (hb.cell (p := ⟨gb, o + k * 3, none⟩) (Nat.lt_of_lt_of_le hgb hB)).trans (hc k hlt).1
      have k1 := (hb.cell (p := ⟨gb, o + k * 3 + 1, none⟩) (Nat.lt_of_lt_of_le hgb hB)).trans (hc k hlt).2.1
      have k2 := (hb.cell (p := ⟨gb, o + k * 3 + 2, none⟩) (Nat.lt_of_lt_of_le hgb hB)).trans (hc k hlt).2.2
      have hgs : gb < wr.heap.size := by omega
      have hft := (HF.out _ (List.getElem_mem hlt)).2
      have HIN := hide hft
      have HAS := hide (fun x => rightAssoc_any ts[k] x)
      have HR := hide (rlF_drop hlt m g)
      clear hc hft
      generalize ts[k] = t at *
      obtain ⟨nm, lv, wy⟩ := t
      simp only at k0 k1 k2 HIN HAS HR
      have HM1 := hide (HM.out.kept (World.grownBy_alloc wr (.cells #[.string (K.str nm), .int .i64 lv, .int .i64 wy] 45) none) (by simp))
      have HLK := Mw.run_look (x := lv) HM1.out intK Tryz.underlying64 (zero_int _) HIN.out.1 true
      rw [if_pos rfl, (lvL_look m lv).1, (lvL_look m lv).2] at HLK
      have HLK' : (Instr.lookup 64 (.map (some w.heap.size)) (.int .i64 lv) true).run Tryz.prog (wr.alloc (.cells #[.string (K.str nm), .int .i64 lv, .int .i64 wy] 45)) = .ok (.tuple #[.int .i64 ((Mw.asc m lv).getD 0), .bool (Mw.asc m lv).isSome]) (wr.alloc (.cells #[.string (K.str nm), .int .i64 lv, .int .i64 wy] 45)) := HLK
      have HBA := hide (fun o => HB.out.alloc HB.out.size o)
      clear HLK hb
      generalize qa : asB ⟨nm, lv, wy⟩ = ba at *
      clear qa
      cases ba
      · have HX := hide (HE.out.trans (HR.out.trans (if_pos rfl)))
        go_wp2_with fail
        refine (HAS.out _).mono ?_; rintro _ w2 ⟨rfl, hb2⟩
        have HB2 := hide ((HBA.out _).trans (hb2.mono (HBA.out _).size))
        clear hb2
        go_wp2
        go_ret
        exact ⟨ret_bool HX.out.symm, HB2.out⟩
      have HR1 := hide (HE.out.trans (HR.out.trans (if_neg (by simp))))
      have HSO : Hid (¬ ((Mw.asc m lv).isSome = true ∧ (Mw.asc m lv).getD 0 ≠ wy) → Mw.asc (lvL m) lv = none ∨ Mw.asc (lvL m) lv = some (.int .i64 wy)) := hide (fun h => by
        rw [asc_lvL]
        cases q : Mw.asc m lv with
        | none => exact .inl rfl
        | some y =>
          rw [q] at h
          have : y = wy := Classical.byContradiction fun n => h ⟨rfl, n⟩
          rw [this]; exact .inr rfl)
      have HPUT : Hid (¬ 0 < lv → lvPut m ⟨nm, lv, wy⟩ = m) := hide (fun h => by unfold lvPut; rw [if_neg h])
      have HPUT2 : Hid (0 < lv → lvL (lvPut m ⟨nm, lv, wy⟩) = if Mw.asc (lvL m) lv = none then lvL m ++ [(lv, .int .i64 wy)] else lvL m) := hide (fun h => by
        unfold lvPut
        rw [if_pos h, asc_lvL]
        cases q : Mw.asc m lv with
        | none => simp [lvL]
        | some y => simp)
      by_cases h2 : (Mw.asc m lv).isSome = true ∧ (Mw.asc m lv).getD 0 ≠ wy
      · have HX := hide (HR1.out.trans (if_pos h2))
        obtain ⟨h3, h4⟩ := h2
        rw [h3] at HLK'
        have h5 : ((Mw.asc m lv).getD 0 != wy) = true := by simpa using h4
        clear h3 h4 HSO
        generalize (Mw.asc m lv).getD 0 = zs at *
        go_wp2_with fail
        refine (HAS.out _).mono ?_; rintro _ w2 ⟨rfl, hb2⟩
        have HB2 := hide ((HBA.out _).trans (hb2.mono (HBA.out _).size))
        have hbb := (hb2.block wr.heap.size (by simp)).trans (heap_alloc_new wr _)
        have hz2 : wr.heap.size < w2.heap.size := (Array.getElem?_eq_some_iff.1 hbb).1
        have f1 := cell_of_row w2 _ 1 _ _ _ hbb
        have f2 := cell_of_row w2 _ 2 _ _ _ hbb
        clear hb2 hbb
        go_wp2
        go_ret
        exact ⟨ret_bool HX.out.symm, HB2.out⟩
      · have HX := hide (HR1.out.trans (if_neg h2))
        have HSS := hide (HSO.out h2)
        have h3 : ((Mw.asc m lv).isSome && ((Mw.asc m lv).getD 0 != wy)) = false := by
          cases q : (Mw.asc m lv).isSome
          · rfl
          · rw [Bool.true_and]
            by_cases q2 : (Mw.asc m lv).getD 0 = wy
            · rw [q2]; simp
            · exact absurd ⟨q, q2⟩ h2
        generalize qs : (Mw.asc m lv).isSome = kn at HLK' h3
        generalize qg : (Mw.asc m lv).getD 0 = zs at HLK' h3
        clear h2 qs qg HSO HR1 HR HE
        by_cases hp : 0 < lv
        · have HP := hide (HPUT2.out hp)
          cases kn
          · go_wp2_with fail
            refine (HAS.out _).mono ?_; rintro _ w2 ⟨rfl, hb2⟩
            have HB2 := hide ((HBA.out _).trans (hb2.mono (HBA.out _).size))
            have hbb := (hb2.block wr.heap.size (by simp)).trans (heap_alloc_new wr _)
            have hz2 : wr.heap.size < w2.heap.size := (Array.getElem?_eq_some_iff.1 hbb).1
            have f1 := cell_of_row w2 _ 1 _ _ _ hbb
            have f2 := cell_of_row w2 _ 2 _ _ _ hbb
            have HM2 := hide (HM1.out.kept (only_below hb2 none) (by simp))
            have HBC := hide (fun (x : World) (h : w2.grownBy x (some w.heap.size)) => (cell_of_row x _ 1 _ _ _ ((h.block wr.heap.size hz2 (fun e => by injection e with e; omega)).trans hbb)))
            clear hb2 hbb
            have HST := hide (Mw.run_store (x := lv) HM2.out intK Tryz.underlying64 HIN.out.1 (.int .i64 wy) HSS.out)
            rw [← HP.out] at HST
            clear HLK'
            go_wp2_with (at_mapUpdate; refine Mw.wpList_store rfl _ _ _ _ rfl HST.out rfl rfl rfl ?_; rintro w3 ⟨hm3, hg3⟩; have f3 := HBC.out _ hg3)
            have HB3 := hide (Below.grown HB2.out hg3 HB2.out.size (fun k e => by injection e with e; omega))
            have HM3 := hide hm3
            clear hm3 hg3
            go_roundw
            case rel => exact ⟨k + 1, _, _, by omega, by go_num, rfl, HX, HB3.out, HM3⟩
            case measure => simp [intOf]; omega
          · have h4 : (zs != wy) = false := by simpa using h3
            clear h3
            go_wp2_with fail
            refine (HAS.out _).mono ?_; rintro _ w2 ⟨rfl, hb2⟩
            have HB2 := hide ((HBA.out _).trans (hb2.mono (HBA.out _).size))
            have hbb := (hb2.block wr.heap.size (by simp)).trans (heap_alloc_new wr _)
            have hz2 : wr.heap.size < w2.heap.size := (Array.getElem?_eq_some_iff.1 hbb).1
            have f1 := cell_of_row w2 _ 1 _ _ _ hbb
            have f2 := cell_of_row w2 _ 2 _ _ _ hbb
            have HM2 := hide (HM1.out.kept (only_below hb2 none) (by simp))
            have HBC := hide (fun (x : World) (h : w2.grownBy x (some w.heap.size)) => (cell_of_row x _ 1 _ _ _ ((h.block wr.heap.size hz2 (fun e => by injection e with e; omega)).trans hbb)))
            clear hb2 hbb
            have HST := hide (Mw.run_store (x := lv) HM2.out intK Tryz.underlying64 HIN.out.1 (.int .i64 wy) HSS.out)
            rw [← HP.out] at HST
            clear HLK'
            go_wp2_with (at_mapUpdate; refine Mw.wpList_store rfl _ _ _ _ rfl HST.out rfl rfl rfl ?_; rintro w3 ⟨hm3, hg3⟩; have f3 := HBC.out _ hg3)
            have HB3 := hide (Below.grown HB2.out hg3 HB2.out.size (fun k e => by injection e with e; omega))
            have HM3 := hide hm3
            clear hm3 hg3
            go_roundw
            case rel => exact ⟨k + 1, _, _, by omega, by go_num, rfl, HX, HB3.out, HM3⟩
            case measure => simp [intOf]; omega
        · have HP := hide (HPUT.out hp)
          have hp' := Int.not_lt.1 hp
          clear hp
          cases kn
          · go_wp2_with fail
            refine (HAS.out _).mono ?_; rintro _ w2 ⟨rfl, hb2⟩
            have HB2 := hide ((HBA.out _).trans (hb2.mono (HBA.out _).size))
            have hbb := (hb2.block wr.heap.size (by simp)).trans (heap_alloc_new wr _)
            have hz2 : wr.heap.size < w2.heap.size := (Array.getElem?_eq_some_iff.1 hbb).1
            have f1 := cell_of_row w2 _ 1 _ _ _ hbb
            have f2 := cell_of_row w2 _ 2 _ _ _ hbb
            have HM2 := hide (HM1.out.kept (only_below hb2 none) (by simp))
            clear hb2 hbb
            rw [HP.out] at HX
            clear HLK'
            go_wp2
            go_roundw
            case rel => exact ⟨k + 1, _, _, by omega, by go_num, rfl, HX, HB2.out, HM2⟩
            case measure => simp [intOf]; omega
          · have h4 : (zs != wy) = false := by simpa using h3
            clear h3
            go_wp2_with fail
            refine (HAS.out _).mono ?_; rintro _ w2 ⟨rfl, hb2⟩
            have HB2 := hide ((HBA.out _).trans (hb2.mono (HBA.out _).size))
            have hbb := (hb2.block wr.heap.size (by simp)).trans (heap_alloc_new wr _)
            have hz2 : wr.heap.size < w2.heap.size := (Array.getElem?_eq_some_iff.1 hbb).1
            have f1 := cell_of_row w2 _ 1 _ _ _ hbb
            have f2 := cell_of_row w2 _ 2 _ _ _ hbb
            have HM2 := hide (HM1.out.kept (only_below hb2 none) (by simp))
            clear hb2 hbb
            rw [HP.out] at HX
            clear HLK'
            go_wp2
            go_roundw
            case rel => exact ⟨k + 1, _, _, by omega, by go_num, rfl, HX, HB2.out, HM2⟩
            case measure => simp [intOf]; omega
    · obtain rfl : k = ts.length := by omega
      have hL := Mw.run_len HM.out Tryz.underlying64 3
      have HX := hide (HE.out.trans (rlF_end (Nat.le_refl _) m g))
      rw [show (lvL m).length = m.length by simp [lvL]] at hL
      generalize m.length = q at *
      clear hb
      go_wp2_with (simp only [hL])
      go_ret
      exact ⟨ret_bool HX.out.symm, HB.out⟩
end Go.Proofs.YtoehbkgdodogkaaGreat
