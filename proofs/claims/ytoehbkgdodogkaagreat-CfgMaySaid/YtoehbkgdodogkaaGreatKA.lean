/- Pure words for grammars: how a source's grammar is built. -/
import Derived.Test.YtoehbkgdodogkaaGreatGmL
import Derived.Test.YtoehbkgdodogkaaGreatYaccL
import Derived.Test.YtoehbkgdodogkaaGreatYaccPure
namespace Go.Proofs.YtoehbkgdodogkaaGreat
set_option maxRecDepth 100000

namespace Gm
/-- What is built, or where it goes wrong, and why. -/
inductive R (α : Type) where
  | ok : α → R α
  | bad : Tok → Int → R α
def R.bind {α β : Type} (r : R α) (f : α → R β) : R β := match r with | .ok a => f a | .bad x e => .bad x e
theorem R.bind_ok {α β : Type} (a : α) (f : α → R β) : (R.ok a).bind f = f a := rfl
theorem R.bind_bad {α β : Type} (x : Tok) (e : Int) (f : α → R β) : (R.bad x e : R α).bind f = .bad x e := rfl
theorem R.bind_eq {α β : Type} {x : R α} {f : α → R β} {b : β} (h : x.bind f = .ok b) : ∃ a, x = .ok a ∧ f a = .ok b := by
  cases x with
  | ok a => exact ⟨a, rfl, h⟩
  | bad x e => cases h
/-- A terminal's number; a new one, if it is none yet. -/
def put (ts : List Tm) (x : Tok) : R (List Tm × Int) :=
  if 0 ≤ find (names ts) x.t then .ok (ts, find (names ts) x.t) else if ts.length = 24 then .bad x 5 else .ok (ts ++ [⟨x.t, 0, 0⟩], ts.length)
/-- What is declared: terminals, what has its own declaration, the start, how many levels there are. -/
structure S1 where
  ts : List Tm
  tk : List (List Int)
  st : Option Tok
  lv : Int
def decl1 (k : Int) (S : S1) (x : Tok) : R S1 :=
  if k = 7 then (if S.st.isSome then .bad x 7 else .ok { S with st := some x })
  else if k = 3 then (if x.t ∈ S.tk then .bad x 7 else (put S.ts x).bind fun p => .ok { S with ts := p.1, tk := S.tk ++ [x.t] })
  else if 0 ≤ find (names S.ts) x.t ∧ 0 < (S.ts.map Tm.lv).getD (find (names S.ts) x.t).toNat 0 then .bad x 7
  else (put S.ts x).bind fun p => .ok { S with ts := p.1.modify p.2.toNat fun t => ⟨t.nm, S.lv, k - 3⟩ }
def declN (k : Int) : S1 → List Tok → R S1
  | S, [] => .ok S
  | S, x :: r => (decl1 k S x).bind fun S => declN k S r
def up (k : Int) (S : S1) : S1 := if k = 3 ∨ k = 7 then S else { S with lv := S.lv + 1 }
def decls : S1 → List Y.Dcl → R S1
  | S, [] => .ok S
  | S, d :: r => (declN d.k (up d.k S) d.ns).bind fun S => decls S r
/-- The nonterminals. -/
def left1 (ts : List Tm) (ns : List (List Int)) (x : Tok) : R (List (List Int)) :=
  if 0 ≤ find (names ts) x.t then .bad x 7 else if 0 ≤ find ns x.t then .ok ns else if ns.length = 16 then .bad x 5 else .ok (ns ++ [x.t])
def lefts (ts : List Tm) : List (List Int) → List Y.Prd → R (List (List Int))
  | ns, [] => .ok ns
  | ns, p :: r => (left1 ts ns p.l).bind fun ns => lefts ts ns r
/-- A reference's symbol. -/
def sym (ts : List Tm) (x : Tok) : R (List Tm × Int) :=
  if 0 ≤ find (names ts) x.t ∨ T.isLit x.t = true ∨ x.t = [101, 114, 114, 111, 114] then put ts x else .bad x 6
def symR (ns : List (List Int)) (ts : List Tm) (x : Tok) : R (List Tm × Int) := if 0 ≤ find ns x.t then .ok (ts, -1 - find ns x.t) else sym ts x
def symP (ns : List (List Int)) (ts : List Tm) (x : Tok) : R (List Tm × Int) := if 0 ≤ find ns x.t then .bad x 6 else sym ts x
/-- A rule's symbols, and its last terminal. -/
def rights (ns : List (List Int)) : List Tm → List Int → Int → List Tok → R (List Tm × List Int × Int)
  | ts, acc, p, [] => .ok (ts, acc, p)
  | ts, acc, p, x :: r => if acc.length = 6 then .bad x 5 else (symR ns ts x).bind fun q => rights ns q.1 (acc ++ [q.2]) (if 0 ≤ q.2 then q.2 else p) r
def prod1 (ns : List (List Int)) (ts : List Tm) (rs : List Rl) (p : Y.Prd) : R (List Tm × List Rl) :=
  if rs.length = 40 then .bad p.l 5 else (rights ns ts [] (-1) p.r).bind fun q => match p.p with
    | none => .ok (q.1, rs ++ [⟨find ns p.l.t, q.2.1, q.2.2⟩])
    | some x => (symP ns q.1 x).bind fun y => .ok (y.1, rs ++ [⟨find ns p.l.t, q.2.1, y.2⟩])
def prods (ns : List (List Int)) : List Tm → List Rl → List Y.Prd → R (List Tm × List Rl)
  | ts, rs, [] => .ok (ts, rs)
  | ts, rs, p :: r => (prod1 ns ts rs p).bind fun q => prods ns q.1 q.2 r
/-- The start. -/
def start (ns : List (List Int)) : Option Tok → R Int
  | none => .ok 0
  | some x => if 0 ≤ find ns x.t then .ok (find ns x.t) else .bad x 8
/-- A source's grammar. -/
def build (ds : List Y.Dcl) (ps : List Y.Prd) : R Gr :=
  (decls ⟨[], [], none, 0⟩ ds).bind fun S => (lefts S.ts [] ps).bind fun ns => (prods ns S.ts [] ps).bind fun q => (start ns S.st).bind fun z => .ok ⟨q.1, ns, q.2, z⟩
end Gm
end Go.Proofs.YtoehbkgdodogkaaGreat

/- Pure: a grammar that is built of a good source may be, and each of its symbols is found by its name. -/
namespace Go.Proofs.YtoehbkgdodogkaaGreat
set_option maxRecDepth 100000

namespace Gm
/-- What a source of a text keeps. -/
structure Good (ds : List Y.Dcl) (ps : List Y.Prd) : Prop where
  k : ∀ d ∈ ds, d.k = 3 ∨ d.k = 4 ∨ d.k = 5 ∨ d.k = 6 ∨ d.k = 7
  e : ∀ d ∈ ds, d.ns ≠ []
  d : ∀ d ∈ ds, ∀ x ∈ d.ns, named x.t = true ∧ K.Bytes x.t
  s : ∀ d ∈ ds, d.k = 7 → ∀ x ∈ d.ns, T.isName x.t = true
  n : ps ≠ []
  l : ∀ p ∈ ps, T.isName p.l.t = true ∧ K.Bytes p.l.t
  r : ∀ p ∈ ps, ∀ x ∈ p.r, named x.t = true ∧ K.Bytes x.t
  p : ∀ p ∈ ps, ∀ x, p.p = some x → named x.t = true ∧ K.Bytes x.t

/-- What terminals keep: their names, and their levels up to L; W n is how those of level n associate. -/
structure Tin (ts : List Tm) (L : Nat) (W : Nat → Int) : Prop where
  c : ts.length ≤ 24
  nd : (names ts).Nodup
  nm : ∀ t ∈ ts, named t.nm = true ∧ K.Bytes t.nm
  lv : ∀ t ∈ ts, (t.lv = 0 ∧ t.wy = 0) ∨ ∃ n : Nat, t.lv = (n : Int) ∧ 1 ≤ n ∧ n ≤ L ∧ t.wy = W n ∧ 1 ≤ W n ∧ W n ≤ 3
theorem Tin.nil (W : Nat → Int) : Tin [] 0 W := ⟨by simp, by simp [names], by simp, by simp⟩
theorem names_len (ts : List Tm) : (names ts).length = ts.length := by simp [names]
theorem names_app (a b : List Tm) : names (a ++ b) = names a ++ names b := by simp [names]
theorem nodup_snoc {l : List (List Int)} {s : List Int} (h : l.Nodup) (hs : s ∉ l) : (l ++ [s]).Nodup := by
  rw [List.nodup_append]
  exact ⟨h, by simp, fun a ha b hb => by simp at hb; subst hb; exact fun e => hs (e ▸ ha)⟩
/-- What put answers. -/
theorem put_ok {ts ts' : List Tm} {x : Tok} {n : Int} (h : put ts x = .ok (ts', n)) : (∃ j : Nat, find (names ts) x.t = (j : Int) ∧ ts' = ts ∧ n = (j : Int) ∧ ∃ hj : j < ts.length, (ts[j]).nm = x.t) ∨ (x.t ∉ names ts ∧ ts' = ts ++ [⟨x.t, 0, 0⟩] ∧ n = (ts.length : Int) ∧ ts.length ≠ 24) := by
  unfold put at h
  split at h
  · rename_i h0
    injection h with h
    injection h with h1 h2
    obtain ⟨i, e, hi, hs⟩ := find_some h0
    rw [names_len] at hi
    exact .inl ⟨i, e, h1.symm, by rw [← h2, e], hi, by simpa [names] using hs⟩
  · rename_i h0
    split at h
    · cases h
    · rename_i h24
      injection h with h
      injection h with h1 h2
      exact .inr ⟨find_none.1 (by omega), h1.symm, h2.symm, h24⟩
theorem Tin.put {ts ts' : List Tm} {L : Nat} {W : Nat → Int} {x : Tok} {n : Int} (h : Tin ts L W) (hx : named x.t = true ∧ K.Bytes x.t) (hp : put ts x = .ok (ts', n)) : Tin ts' L W := by
  rcases put_ok hp with ⟨j, _, rfl, _⟩ | ⟨h4, rfl, _, h5⟩
  · exact h
  · refine ⟨by have := h.c; simp; omega, ?_, ?_, ?_⟩
    · rw [names_app]; exact nodup_snoc h.nd h4
    · intro t ht
      rcases List.mem_append.1 ht with h1 | h1
      · exact h.nm t h1
      · simp at h1; subst h1; exact hx
    · intro t ht
      rcases List.mem_append.1 ht with h1 | h1
      · exact h.lv t h1
      · simp at h1; subst h1; exact .inl ⟨rfl, rfl⟩
/-- What there was stands in front. -/
theorem put_pre {ts ts' : List Tm} {x : Tok} {n : Int} (h : put ts x = .ok (ts', n)) : ∃ r, ts' = ts ++ r := by
  unfold put at h
  split at h
  · injection h with h; injection h with h1 h2; subst h1; exact ⟨[], by simp⟩
  · split at h
    · cases h
    · injection h with h; injection h with h1 h2; subst h1; exact ⟨_, rfl⟩

theorem mem_modify {l : List Tm} {n : Nat} {f : Tm → Tm} {t : Tm} (h : t ∈ l.modify n f) : t ∈ l ∨ ∃ hn : n < l.length, t = f l[n] := by
  obtain ⟨i, hi, rfl⟩ := List.getElem_of_mem h
  rw [List.length_modify] at hi
  rw [List.getElem_modify]
  split
  · rename_i e; subst e; exact .inr ⟨hi, rfl⟩
  · exact .inl (List.getElem_mem _)
theorem names_modify (l : List Tm) (n : Nat) (f : Tm → Tm) (hf : ∀ t, (f t).nm = t.nm) : names (l.modify n f) = names l := by
  unfold names
  apply List.ext_getElem
  · simp
  · intro i h1 h2
    simp only [List.getElem_map, List.getElem_modify]
    split
    · rw [hf]
    · rfl
/-- What declarations keep: levels up to L; each but perhaps the last one, which is under way, is a terminal's. -/
structure Din (S : S1) (L : Nat) (W : Nat → Int) (o : Bool) : Prop where
  t : Tin S.ts L W
  l : S.lv = (L : Int)
  h : ∀ n : Nat, 1 ≤ n → (if o then n < L else n ≤ L) → ∃ t ∈ S.ts, t.lv = (n : Int)
  s : ∀ x, S.st = some x → T.isName x.t = true

theorem Din.token {S S' : S1} {L : Nat} {W : Nat → Int} {o : Bool} {x : Tok} (h : Din S L W o) (hx : named x.t = true ∧ K.Bytes x.t) (hd : decl1 3 S x = .ok S') : Din S' L W o := by
  unfold decl1 at hd
  rw [if_neg (by decide), if_pos rfl] at hd
  split at hd
  · cases hd
  · obtain ⟨⟨ts', n⟩, h1, h2⟩ := R.bind_eq hd
    injection h2 with h2
    subst h2
    refine ⟨h.t.put hx h1, h.l, fun n hn hl => ?_, h.s⟩
    obtain ⟨t, ht, e⟩ := h.h n hn hl
    obtain ⟨r, hr⟩ := put_pre h1
    exact ⟨t, by simp only; rw [hr]; exact List.mem_append_left _ ht, e⟩
theorem Din.start {S S' : S1} {L : Nat} {W : Nat → Int} {o : Bool} {x : Tok} (h : Din S L W o) (hx : T.isName x.t = true) (hd : decl1 7 S x = .ok S') : Din S' L W o := by
  unfold decl1 at hd
  rw [if_pos rfl] at hd
  split at hd
  · cases hd
  · injection hd with hd
    subst hd
    exact ⟨h.t, h.l, h.h, fun y hy => by simp only at hy; injection hy with hy; subst hy; exact hx⟩
theorem Din.prec {S S' : S1} {L : Nat} {W : Nat → Int} {o : Bool} {x : Tok} {k : Int} (h : Din S L W o) (hL : 1 ≤ L) (hk : k = 4 ∨ k = 5 ∨ k = 6) (hw : W L = k - 3) (hx : named x.t = true ∧ K.Bytes x.t) (hd : decl1 k S x = .ok S') : Din S' L W false := by
  unfold decl1 at hd
  rw [if_neg (by omega), if_neg (by omega)] at hd
  split at hd
  · cases hd
  · rename_i hno
    obtain ⟨⟨ts', n⟩, h1, h2⟩ := R.bind_eq hd
    injection h2 with h2
    subst h2
    have ht := h.t.put hx h1
    obtain ⟨r, hr⟩ := put_pre h1
    obtain ⟨i, rfl, hi, hz⟩ : ∃ i : Nat, n = (i : Int) ∧ ∃ hi : i < ts'.length, (ts'[i]).lv = 0 := by
      rcases put_ok h1 with ⟨j, ej, rfl, e, hj, hs⟩ | ⟨h4, rfl, e, _⟩
      · refine ⟨j, e, hj, ?_⟩
        have hnn : (S.ts[j]).lv = 0 ∨ 0 < (S.ts[j]).lv := by
          rcases h.t.lv _ (List.getElem_mem hj) with ⟨e, _⟩ | ⟨n, e, h1, _⟩ <;> omega
        rcases hnn with q | q
        · exact q
        · exfalso
          apply hno
          refine ⟨by omega, ?_⟩
          rw [ej]
          simp only [Int.toNat_natCast, List.getD, List.getElem?_map, List.getElem?_eq_getElem hj, Option.map_some, Option.getD_some]
          exact q
      · exact ⟨S.ts.length, e, by simp, by simp⟩
    simp only [Int.toNat_natCast]
    refine ⟨⟨?_, ?_, ?_, ?_⟩, h.l, ?_, h.s⟩
    · rw [List.length_modify]; exact ht.c
    · show (names (ts'.modify i fun t => ⟨t.nm, S.lv, k - 3⟩)).Nodup
      rw [names_modify _ i (fun t => ⟨t.nm, S.lv, k - 3⟩) (fun _ => rfl)]; exact ht.nd
    · intro t hm
      rcases mem_modify hm with hm | ⟨hn, rfl⟩
      · exact ht.nm t hm
      · have := ht.nm _ (List.getElem_mem hi)
        exact this
    · intro t hm
      rcases mem_modify hm with hm | ⟨hn, rfl⟩
      · exact ht.lv t hm
      · exact .inr ⟨L, h.l, hL, Nat.le_refl _, hw.symm, by omega, by omega⟩
    · intro m hm hml
      simp only [Bool.false_eq_true, if_false] at hml
      by_cases hmL : m = L
      · subst hmL
        refine ⟨_, List.getElem_mem (n := i) (by rw [List.length_modify]; exact hi), ?_⟩
        rw [List.getElem_modify, if_pos rfl]
        exact h.l
      · obtain ⟨t, htm, e⟩ := h.h m hm (by split <;> omega)
        have htm' : t ∈ ts' := by rw [hr]; exact List.mem_append_left _ htm
        obtain ⟨j, hj, rfl⟩ := List.getElem_of_mem htm'
        refine ⟨_, List.getElem_mem (n := j) (by rw [List.length_modify]; exact hj), ?_⟩
        rw [List.getElem_modify]
        split
        · rename_i q; subst q; omega
        · exact e
theorem Din.names {k : Int} (hk : k = 4 ∨ k = 5 ∨ k = 6) : ∀ (ns : List Tok) {S S' : S1} {L : Nat} {W : Nat → Int} {o : Bool}, Din S L W o → 1 ≤ L → W L = k - 3 → (∀ x ∈ ns, named x.t = true ∧ K.Bytes x.t) → ns ≠ [] ∨ o = false → declN k S ns = .ok S' → Din S' L W false
  | [], S, S', L, W, o, h, _, _, _, ho, hd => by
    injection hd with hd
    subst hd
    rcases ho with q | q
    · exact absurd rfl q
    · subst q; exact h
  | x :: r, S, S', L, W, o, h, hL, hw, hx, ho, hd => by
    rw [declN] at hd
    obtain ⟨S2, h1, h2⟩ := R.bind_eq hd
    exact Din.names hk r (h.prec hL hk hw (hx x (List.mem_cons_self ..)) h1) hL hw (fun y hy => hx y (List.mem_cons_of_mem _ hy)) (.inr rfl) h2
theorem Din.tokens : ∀ (ns : List Tok) {S S' : S1} {L : Nat} {W : Nat → Int} {o : Bool}, Din S L W o → (∀ x ∈ ns, named x.t = true ∧ K.Bytes x.t) → declN 3 S ns = .ok S' → Din S' L W o
  | [], S, S', L, W, o, h, _, hd => by injection hd with hd; subst hd; exact h
  | x :: r, S, S', L, W, o, h, hx, hd => by
    rw [declN] at hd
    obtain ⟨S2, h1, h2⟩ := R.bind_eq hd
    exact Din.tokens r (h.token (hx x (List.mem_cons_self ..)) h1) (fun y hy => hx y (List.mem_cons_of_mem _ hy)) h2
theorem Din.starts : ∀ (ns : List Tok) {S S' : S1} {L : Nat} {W : Nat → Int} {o : Bool}, Din S L W o → (∀ x ∈ ns, T.isName x.t = true) → declN 7 S ns = .ok S' → Din S' L W o
  | [], S, S', L, W, o, h, _, hd => by injection hd with hd; subst hd; exact h
  | x :: r, S, S', L, W, o, h, hx, hd => by
    rw [declN] at hd
    obtain ⟨S2, h1, h2⟩ := R.bind_eq hd
    exact Din.starts r (h.start (hx x (List.mem_cons_self ..)) h1) (fun y hy => hx y (List.mem_cons_of_mem _ hy)) h2
/-- All declarations. -/
theorem Din.decls : ∀ (ds : List Y.Dcl) {S S' : S1} {L : Nat} {W : Nat → Int}, Din S L W false → (∀ d ∈ ds, d.k = 3 ∨ d.k = 4 ∨ d.k = 5 ∨ d.k = 6 ∨ d.k = 7) → (∀ d ∈ ds, d.ns ≠ []) → (∀ d ∈ ds, ∀ x ∈ d.ns, named x.t = true ∧ K.Bytes x.t) → (∀ d ∈ ds, d.k = 7 → ∀ x ∈ d.ns, T.isName x.t = true) → Gm.decls S ds = .ok S' → ∃ L' W', Din S' L' W' false
  | [], S, S', L, W, h, _, _, _, _, hd => by injection hd with hd; subst hd; exact ⟨L, W, h⟩
  | d :: r, S, S', L, W, h, hk, he, hx, hs, hd => by
    rw [Gm.decls] at hd
    obtain ⟨S2, h1, h2⟩ := R.bind_eq hd
    have hr : ∀ {L' W'}, Din S2 L' W' false → ∃ L' W', Din S' L' W' false := fun {L' W'} h' => Din.decls r h' (fun x hx => hk x (List.mem_cons_of_mem _ hx)) (fun x hx => he x (List.mem_cons_of_mem _ hx)) (fun y hy => hx y (List.mem_cons_of_mem _ hy)) (fun y hy => hs y (List.mem_cons_of_mem _ hy)) h2
    have k0 := hk d (List.mem_cons_self ..)
    have e0 := he d (List.mem_cons_self ..)
    have x0 := hx d (List.mem_cons_self ..)
    have s0 := hs d (List.mem_cons_self ..)
    by_cases h3 : d.k = 3
    · rw [h3] at h1
      exact hr (Din.tokens d.ns (L := L) (W := W) (o := false) (by unfold up; rw [if_pos (.inl rfl)]; exact h) x0 h1)
    · by_cases h7 : d.k = 7
      · rw [h7] at h1
        exact hr (Din.starts d.ns (L := L) (W := W) (o := false) (by unfold up; rw [if_pos (.inr rfl)]; exact h) (s0 h7) h1)
      · have h456 : d.k = 4 ∨ d.k = 5 ∨ d.k = 6 := by omega
        let W' : Nat → Int := fun n => if n = L + 1 then d.k - 3 else W n
        refine hr (Din.names h456 d.ns (L := L + 1) (W := W') (o := true) ?_ (by omega) (by simp [W']) x0 (.inl e0) h1)
        unfold up
        rw [if_neg (by omega)]
        refine ⟨⟨h.t.c, h.t.nd, h.t.nm, fun t ht => ?_⟩, by simp [h.l], fun n hn hl => ?_, h.s⟩
        · rcases h.t.lv t ht with q | ⟨n, q1, q2, q3, q4, q5, q6⟩
          · exact .inl q
          · have hW : W' n = W n := by simp only [W']; rw [if_neg (by omega)]
            exact .inr ⟨n, q1, q2, by omega, by rw [hW]; exact q4, by rw [hW]; exact q5, by rw [hW]; exact q6⟩
        · simp only [if_true] at hl
          exact h.h n hn (by simp; omega)

/-- Levels, each of which is a terminal's, are no more than terminals. -/
theorem few : ∀ (L : Nat) (ts : List Tm), (∀ n : Nat, 1 ≤ n → n ≤ L → ∃ t ∈ ts, t.lv = (n : Int)) → L ≤ ts.length
  | 0, _, _ => Nat.zero_le _
  | L + 1, ts, h => by
    obtain ⟨t, ht, e⟩ := h (L + 1) (by omega) (by omega)
    obtain ⟨a, b, rfl⟩ := List.append_of_mem ht
    have := few L (a ++ b) (fun n h1 h2 => by
      obtain ⟨u, hu, eu⟩ := h n h1 (by omega)
      refine ⟨u, ?_, eu⟩
      simp only [List.mem_append, List.mem_cons] at hu ⊢
      rcases hu with q | q | q
      · exact .inl q
      · subst q; omega
      · exact .inr q)
    simp at this ⊢
    omega
theorem lev_true {n w : Int} (hw : w ≠ 0) : ∀ (ts : List Tm) (way : Int), (∀ t ∈ ts, t.lv = n → t.wy = w) → way = 0 ∨ way = w → way = w ∨ (∃ t ∈ ts, t.lv = n) → lev n ts way = true
  | [], way, _, _, h => by
    unfold lev
    rcases h with h | ⟨t, ht, _⟩
    · subst h; simpa using hw
    · simp at ht
  | t :: r, way, h1, h2, h3 => by
    rw [lev]
    by_cases hl : t.lv = n
    · have e := h1 t (List.mem_cons_self ..) hl
      rw [if_neg (show ¬ t.lv ≠ n from fun q => q hl), if_neg (show ¬ (way ≠ 0 ∧ way ≠ t.wy) from fun q => by rcases h2 with p | p; exact q.1 p; exact q.2 (p.trans e.symm))]
      exact lev_true hw r t.wy (fun u hu => h1 u (List.mem_cons_of_mem _ hu)) (.inr e) (.inl e)
    · rw [if_pos hl]
      refine lev_true hw r way (fun u hu => h1 u (List.mem_cons_of_mem _ hu)) h2 ?_
      rcases h3 with h3 | ⟨u, hu, eu⟩
      · exact .inl h3
      · rcases List.mem_cons.1 hu with q | q
        · subst q; exact absurd eu hl
        · exact .inr ⟨u, q, eu⟩
theorem find_self {l : List (List Int)} (hn : l.Nodup) (i : Nat) (hi : i < l.length) : find l l[i] = (i : Int) :=
  find_first i hi rfl fun k hk => fun e => List.pairwise_iff_getElem.1 hn k i (by omega) hi hk e
/-- Such terminals may be. -/
theorem Tin.fine {ts : List Tm} {L : Nat} {W : Nat → Int} (h : Tin ts L W) (hl : ∀ n : Nat, 1 ≤ n → n ≤ L → ∃ t ∈ ts, t.lv = (n : Int)) : terms ts = true := by
  have hL := few L ts hl
  have hc := h.c
  unfold terms
  rw [Bool.and_eq_true]
  refine ⟨decide_eq_true h.c, decide_eq_true fun i hi => ?_⟩
  have hn := (h.nm _ (List.getElem_mem hi)).1
  have hf : find (names ts) (ts[i]).nm = (i : Int) := by
    have := find_self h.nd i (by rw [names_len]; exact hi)
    simpa [names] using this
  have hlv := h.lv _ (List.getElem_mem hi)
  unfold term1
  simp only [Bool.and_eq_true, decide_eq_true_eq, hn, hf]
  rcases hlv with ⟨q1, q2⟩ | ⟨n, q1, q2, q3, q4, q5, q6⟩
  · refine ⟨⟨⟨⟨⟨⟨⟨trivial, by simp⟩, by omega⟩, by omega⟩, by omega⟩, by omega⟩, by rw [q1, q2]; rfl⟩, fun m hm => ?_⟩
    rw [q1] at hm; simp at hm
  · refine ⟨⟨⟨⟨⟨⟨⟨trivial, by simp⟩, by omega⟩, by omega⟩, by omega⟩, by omega⟩, ?_⟩, fun m hm => ?_⟩
    · have e1 : ((ts[i]).lv == 0) = false := by simp; omega
      have e2 : ((ts[i]).wy == 0) = false := by simp; omega
      rw [e1, e2]; rfl
    · have hm' : m < n := by rw [q1] at hm; simpa using hm
      obtain ⟨u, hu, eu⟩ := hl (m + 1) (by omega) (by omega)
      have hWm : W (m + 1) ≠ 0 ∧ ∀ t ∈ ts, t.lv = ((m + 1 : Nat) : Int) → t.wy = W (m + 1) := by
        refine ⟨?_, fun t ht et => ?_⟩
        · rcases h.lv u hu with ⟨q, _⟩ | ⟨n', p1, p2, p3, p4, p5, p6⟩
          · omega
          · obtain rfl : n' = m + 1 := by omega
            omega
        · rcases h.lv t ht with ⟨q, _⟩ | ⟨n', p1, p2, p3, p4, p5, p6⟩
          · omega
          · obtain rfl : n' = m + 1 := by omega
            exact p4
      exact lev_true hWm.1 ts 0 hWm.2 (.inl rfl) (.inr ⟨u, hu, eu⟩)
end Gm
end Go.Proofs.YtoehbkgdodogkaaGreat

/- Pure: a grammar that is built of a good source may be, and each of its symbols is found by its name: rules, and all together. -/
namespace Go.Proofs.YtoehbkgdodogkaaGreat
set_option maxRecDepth 100000

namespace Gm
/-- What nonterminals keep, beside terminals. -/
structure Nin (ts : List Tm) (ns : List (List Int)) : Prop where
  c : ns.length ≤ 16
  nd : ns.Nodup
  nm : ∀ s ∈ ns, T.isName s = true ∧ K.Bytes s
  no : ∀ s ∈ ns, s ∉ names ts
theorem Nin.nil (ts : List Tm) : Nin ts [] := ⟨by simp, by simp, by simp, by simp⟩
/-- Lefts, one by one: each at most one more than the greatest one ahead; all come. -/
def tops (n : Nat) : List Int → Int → Bool
  | [], top => top == n - 1
  | l :: r, top => if l < 0 ∨ top + 1 < l then false else tops n r (if top < l then l else top)
theorem left1_ok {ts : List Tm} {ns ns' : List (List Int)} {x : Tok} (h : left1 ts ns x = .ok ns') : (ns' = ns ∧ 0 ≤ find ns x.t) ∨ (ns' = ns ++ [x.t] ∧ x.t ∉ ns ∧ x.t ∉ names ts ∧ ns.length ≠ 16) := by
  unfold left1 at h
  split at h
  · cases h
  · rename_i h1
    split at h
    · rename_i h2
      injection h with h
      exact .inl ⟨h.symm, h2⟩
    · rename_i h2
      split at h
      · cases h
      · rename_i h3
        injection h with h
        exact .inr ⟨h.symm, find_none.1 (by omega), find_none.1 (by omega), h3⟩
theorem lefts_ok (ts : List Tm) : ∀ (ps : List Y.Prd) {ns ns' : List (List Int)}, Nin ts ns → (∀ p ∈ ps, T.isName p.l.t = true ∧ K.Bytes p.l.t) → lefts ts ns ps = .ok ns' → Nin ts ns' ∧ (∃ r, ns' = ns ++ r) ∧ tops ns'.length (ps.map fun p => find ns' p.l.t) (ns.length - 1) = true
  | [], ns, ns', h, _, hd => by
    injection hd with hd
    subst hd
    exact ⟨h, ⟨[], by simp⟩, by simp [tops]⟩
  | p :: r, ns, ns', h, hx, hd => by
    rw [lefts] at hd
    obtain ⟨n1, h1, h2⟩ := R.bind_eq hd
    have x0 := hx p (List.mem_cons_self ..)
    have hr := fun h => lefts_ok ts r (ns := n1) (ns' := ns') h (fun y hy => hx y (List.mem_cons_of_mem _ hy)) h2
    rcases left1_ok h1 with ⟨rfl, h3⟩ | ⟨rfl, h3, h4, h5⟩
    · obtain ⟨k1, ⟨m, rfl⟩, k2⟩ := hr h
      refine ⟨k1, ⟨m, rfl⟩, ?_⟩
      have hf := find_app (m := m) h3
      have hlt := find_lt n1 p.l.t
      rw [List.map_cons, tops, hf, if_neg (by omega), if_neg (by omega)]
      exact k2
    · have hn : Nin ts (ns ++ [p.l.t]) := by
        refine ⟨by have := h.c; simp; omega, nodup_snoc h.nd h3, fun s hs => ?_, fun s hs => ?_⟩
        · rcases List.mem_append.1 hs with q | q
          · exact h.nm s q
          · simp at q; subst q; exact x0
        · rcases List.mem_append.1 hs with q | q
          · exact h.no s q
          · simp at q; subst q; exact h4
      obtain ⟨k1, ⟨m, rfl⟩, k2⟩ := hr hn
      refine ⟨k1, ⟨[p.l.t] ++ m, by simp⟩, ?_⟩
      have hf0 : find (ns ++ [p.l.t]) p.l.t = (ns.length : Int) := by rw [find_snoc (find_none.2 h3), if_pos rfl]
      have hf : find (ns ++ [p.l.t] ++ m) p.l.t = (ns.length : Int) := by rw [find_app (by omega), hf0]
      rw [List.map_cons, tops, hf, if_neg (by omega), if_pos (by omega)]
      have e : ((ns ++ [p.l.t]).length : Int) - 1 = (ns.length : Int) := by simp
      rw [e] at k2
      exact k2

/-- A symbol that there is, of so many terminals and nonterminals. -/
def Sy (t n : Nat) (z : Int) : Prop := z < t ∧ -1 - z < n
theorem Sy.mono {t t' n : Nat} {z : Int} (h : Sy t n z) (ht : t ≤ t') : Sy t' n z := ⟨by have := h.1; omega, h.2⟩
/-- What a reference's symbol keeps. -/
structure Keeps (ts ts' : List Tm) (ns : List (List Int)) : Prop where
  n : Nin ts' ns
  p : ∃ r, ts' = ts ++ r
  t : ∀ L W, Tin ts L W → Tin ts' L W
theorem Keeps.len {ts ts' : List Tm} {ns : List (List Int)} (h : Keeps ts ts' ns) : ts.length ≤ ts'.length := by obtain ⟨r, rfl⟩ := h.p; simp
theorem Keeps.refl {ts : List Tm} {ns : List (List Int)} (h : Nin ts ns) : Keeps ts ts ns := ⟨h, ⟨[], by simp⟩, fun _ _ h => h⟩
theorem Keeps.trans {a b c : List Tm} {ns : List (List Int)} (h : Keeps a b ns) (k : Keeps b c ns) : Keeps a c ns := by
  refine ⟨k.n, ?_, fun L W q => k.t L W (h.t L W q)⟩
  obtain ⟨r, rfl⟩ := h.p
  obtain ⟨m, rfl⟩ := k.p
  exact ⟨r ++ m, by simp⟩
theorem sym_ok {ns : List (List Int)} {ts ts' : List Tm} {x : Tok} {z : Int} (hn : Nin ts ns) (hf : find ns x.t < 0) (hx : named x.t = true ∧ K.Bytes x.t) (h : sym ts x = .ok (ts', z)) : Keeps ts ts' ns ∧ 0 ≤ z ∧ Sy ts'.length ns.length z := by
  unfold sym at h
  split at h
  · have hp := put_pre h
    have ht := fun L W (q : Tin ts L W) => q.put hx h
    rcases put_ok h with ⟨j, _, rfl, e, hj, _⟩ | ⟨h4, rfl, e, _⟩
    · exact ⟨⟨hn, hp, ht⟩, by omega, by omega, by omega⟩
    · refine ⟨⟨⟨hn.c, hn.nd, hn.nm, fun s hs => ?_⟩, hp, ht⟩, by omega, by simp; omega, by omega⟩
      rw [names_app, List.mem_append]
      rintro (q | q)
      · exact hn.no s hs q
      · simp [names] at q
        subst q
        exact find_none.1 hf hs
  · cases h
theorem symR_ok {ns : List (List Int)} {ts ts' : List Tm} {x : Tok} {z : Int} (hn : Nin ts ns) (hx : named x.t = true ∧ K.Bytes x.t) (h : symR ns ts x = .ok (ts', z)) : Keeps ts ts' ns ∧ Sy ts'.length ns.length z := by
  unfold symR at h
  split at h
  · injection h with h; injection h with h1 h2; subst h1 h2
    have := find_lt ns x.t
    exact ⟨Keeps.refl hn, by omega, by omega⟩
  · obtain ⟨h1, _, h3⟩ := sym_ok hn (by omega) hx h
    exact ⟨h1, h3⟩
theorem symP_ok {ns : List (List Int)} {ts ts' : List Tm} {x : Tok} {z : Int} (hn : Nin ts ns) (hx : named x.t = true ∧ K.Bytes x.t) (h : symP ns ts x = .ok (ts', z)) : Keeps ts ts' ns ∧ 0 ≤ z ∧ Sy ts'.length ns.length z := by
  unfold symP at h
  split at h
  · cases h
  · exact sym_ok hn (by omega) hx h
theorem rights_ok (ns : List (List Int)) : ∀ (r : List Tok) {ts ts' : List Tm} {acc out : List Int} {p q : Int}, Nin ts ns → (∀ x ∈ r, named x.t = true ∧ K.Bytes x.t) → acc.length ≤ 6 → (∀ z ∈ acc, Sy ts.length ns.length z ∧ (0 ≤ z → 0 ≤ p)) → -1 ≤ p → p < ts.length → rights ns ts acc p r = .ok (ts', out, q) → Keeps ts ts' ns ∧ out.length ≤ 6 ∧ (∀ z ∈ out, Sy ts'.length ns.length z ∧ (0 ≤ z → 0 ≤ q)) ∧ -1 ≤ q ∧ q < ts'.length
  | [], ts, ts', acc, out, p, q, hn, _, hl, ha, hp1, hp2, h => by
    injection h with h; injection h with h1 h2; injection h2 with h2 h3
    subst h1 h2 h3
    exact ⟨Keeps.refl hn, hl, ha, hp1, hp2⟩
  | x :: r, ts, ts', acc, out, p, q, hn, hx, hl, ha, hp1, hp2, h => by
    rw [rights] at h
    split at h
    · cases h
    · rename_i h6
      obtain ⟨⟨t1, z⟩, h1, h2⟩ := R.bind_eq h
      obtain ⟨k1, k2⟩ := symR_ok hn (hx x (List.mem_cons_self ..)) h1
      have hkl := k1.len
      simp only at h2
      obtain ⟨k3, k4⟩ := rights_ok ns r k1.n (fun y hy => hx y (List.mem_cons_of_mem _ hy)) (by simp; omega) (fun w hw => by
        rcases List.mem_append.1 hw with m | m
        · obtain ⟨a1, a2⟩ := ha w m
          refine ⟨a1.mono hkl, fun h0 => ?_⟩
          have := a2 h0
          split <;> omega
        · simp at m; subst m
          refine ⟨k2, fun h0 => ?_⟩
          rw [if_pos h0]; exact h0) (by split <;> omega) (by have := k2.1; split <;> omega) h2
      exact ⟨k1.trans k3, k4⟩
/-- What a rule keeps. -/
def Ru (t n : Nat) (r : Rl) : Prop := r.r.length ≤ 6 ∧ -1 ≤ r.p ∧ r.p < t ∧ ∀ z ∈ r.r, Sy t n z ∧ (0 ≤ z → 0 ≤ r.p)
theorem Ru.mono {t t' n : Nat} {r : Rl} (h : Ru t n r) (ht : t ≤ t') : Ru t' n r := ⟨h.1, h.2.1, by have := h.2.2.1; omega, fun z hz => ⟨(h.2.2.2 z hz).1.mono ht, (h.2.2.2 z hz).2⟩⟩
theorem prod1_ok {ns : List (List Int)} {ts ts' : List Tm} {rs rs' : List Rl} {p : Y.Prd} (hn : Nin ts ns) (hx : ∀ x ∈ p.r, named x.t = true ∧ K.Bytes x.t) (hp : ∀ x, p.p = some x → named x.t = true ∧ K.Bytes x.t) (h : prod1 ns ts rs p = .ok (ts', rs')) :
    Keeps ts ts' ns ∧ rs.length ≠ 40 ∧ ∃ r, rs' = rs ++ [r] ∧ r.l = find ns p.l.t ∧ Ru ts'.length ns.length r := by
  unfold prod1 at h
  split at h
  · cases h
  · rename_i h40
    obtain ⟨⟨t1, out, q⟩, h1, h2⟩ := R.bind_eq h
    obtain ⟨k1, k2, k3, k4, k5⟩ := rights_ok ns p.r hn hx (by simp) (by simp) (by omega) (by omega) h1
    rcases hpp : p.p with _ | x
    · rw [hpp] at h2
      injection h2 with h2; injection h2 with e1 e2
      subst e1 e2
      exact ⟨k1, h40, _, rfl, rfl, k2, k4, k5, k3⟩
    · rw [hpp] at h2
      obtain ⟨⟨t2, z⟩, h3, h4⟩ := R.bind_eq h2
      injection h4 with h4; injection h4 with e1 e2
      subst e1 e2
      obtain ⟨m1, m2, m3⟩ := symP_ok k1.n (hp x hpp) h3
      have hml := m1.len
      exact ⟨k1.trans m1, h40, _, rfl, rfl, k2, by simp only; omega, m3.1, fun z hz => ⟨(k3 z hz).1.mono hml, fun _ => m2⟩⟩
theorem prods_ok (ns : List (List Int)) : ∀ (ps : List Y.Prd) {ts ts' : List Tm} {rs rs' : List Rl}, Nin ts ns → (∀ p ∈ ps, (∀ x ∈ p.r, named x.t = true ∧ K.Bytes x.t) ∧ ∀ x, p.p = some x → named x.t = true ∧ K.Bytes x.t) → rs.length ≤ 40 → (∀ r ∈ rs, Ru ts.length ns.length r) → prods ns ts rs ps = .ok (ts', rs') →
    Keeps ts ts' ns ∧ rs'.length ≤ 40 ∧ (∀ r ∈ rs', Ru ts'.length ns.length r) ∧ rs'.map Rl.l = rs.map Rl.l ++ ps.map fun p => find ns p.l.t
  | [], ts, ts', rs, rs', hn, _, hl, hr, h => by
    injection h with h; injection h with h1 h2; subst h1 h2
    exact ⟨Keeps.refl hn, hl, hr, by simp⟩
  | p :: r, ts, ts', rs, rs', hn, hx, hl, hr, h => by
    rw [prods] at h
    obtain ⟨⟨t1, r1⟩, h1, h2⟩ := R.bind_eq h
    obtain ⟨k1, k2, w, rfl, k3, k4⟩ := prod1_ok hn (hx p (List.mem_cons_self ..)).1 (hx p (List.mem_cons_self ..)).2 h1
    have hkl := k1.len
    obtain ⟨m1, m2, m3, m4⟩ := prods_ok ns r k1.n (fun y hy => hx y (List.mem_cons_of_mem _ hy)) (by simp; omega) (fun y hy => by
      rcases List.mem_append.1 hy with q | q
      · exact (hr y q).mono hkl
      · simp at q; subst q; exact k4) h2
    refine ⟨k1.trans m1, m2, m3, ?_⟩
    rw [m4]; simp [k3]
theorem has_sy {G : Gr} {z : Int} (h : Sy G.ts.length G.ns.length z) : has G z = true := by
  unfold has
  split
  · exact decide_eq_true h.1
  · exact decide_eq_true h.2
theorem rule_ru {G : Gr} {r : Rl} (h : Ru G.ts.length G.ns.length r) : rule G r = true := by
  unfold rule
  simp only [Bool.and_eq_true, decide_eq_true_eq, List.all_eq_true]
  refine ⟨⟨⟨h.1, h.2.1⟩, h.2.2.1⟩, fun z hz => ⟨has_sy (h.2.2.2 z hz).1, ?_⟩⟩
  have := (h.2.2.2 z hz).2
  by_cases h0 : 0 ≤ z
  · have h1 := this h0
    rw [decide_eq_true h0]
    simp
    omega
  · rw [decide_eq_false h0]; rfl
theorem rules_tops (G : Gr) : ∀ (rs : List Rl) (top : Int), (∀ r ∈ rs, rule G r = true) → tops G.ns.length (rs.map Rl.l) top = true → rules G rs top = true
  | [], _, _, h => h
  | r :: rs, top, hr, h => by
    rw [List.map_cons, tops] at h
    rw [rules]
    split at h
    · cases h
    · rename_i h1
      rw [if_neg (by rw [hr r (List.mem_cons_self ..)]; simp; omega)]
      exact rules_tops G rs _ (fun y hy => hr y (List.mem_cons_of_mem _ hy)) h

/-- What is named is short. -/
theorem tx_named {s : List Int} (h : named s = true ∧ K.Bytes s) : K.Tx s := by
  refine ⟨h.2, ?_⟩
  have h1 := h.1
  unfold named at h1
  rw [Bool.or_eq_true] at h1
  rcases h1 with h1 | h1
  · unfold T.isName at h1
    simp only [Bool.and_eq_true, decide_eq_true_eq] at h1
    omega
  · rcases T.isLit_len h1 with e | e <;> omega
/-- What a built grammar keeps. -/
structure Built (G : Gr) : Prop where
  r : right G = true
  f : ∀ z, Sy G.ts.length G.ns.length z → look G (name G z) = (z, true)
  t : Fit G
theorem build_ok {ds : List Y.Dcl} {ps : List Y.Prd} {G : Gr} (hg : Good ds ps) (h : build ds ps = .ok G) : Built G := by
  unfold build at h
  obtain ⟨S, h1, h⟩ := R.bind_eq h
  obtain ⟨ns, h2, h⟩ := R.bind_eq h
  obtain ⟨⟨ts, rs⟩, h3, h⟩ := R.bind_eq h
  obtain ⟨z, h4, h⟩ := R.bind_eq h
  injection h with h
  obtain ⟨L, W, hd⟩ := Din.decls ds (S := ⟨[], [], none, 0⟩) (L := 0) (W := fun _ => 0) ⟨Tin.nil _, rfl, fun n h1 h2 => by simp at h2; omega, fun x hx => by cases hx⟩ hg.k hg.e hg.d hg.s h1
  obtain ⟨hn, _, htop⟩ := lefts_ok S.ts ps (Nin.nil _) hg.l h2
  obtain ⟨k1, k2, k3, k4⟩ := prods_ok ns ps hn (fun p hp => ⟨hg.r p hp, hg.p p hp⟩) (by simp) (by simp) h3
  have ht := k1.t L W hd.t
  have hl : ∀ n : Nat, 1 ≤ n → n ≤ L → ∃ t ∈ ts, t.lv = (n : Int) := fun n h1 h2 => by
    obtain ⟨t, hm, e⟩ := hd.h n h1 (by simpa using h2)
    obtain ⟨r, rfl⟩ := k1.p
    exact ⟨t, List.mem_append_left _ hm, e⟩
  have hns : 1 ≤ ns.length := by
    rcases hp : ps with _ | ⟨p, r⟩
    · exact absurd hp hg.n
    · rw [hp] at htop
      rw [List.map_cons, tops] at htop
      split at htop
      · cases htop
      · rename_i q
        have := find_lt ns p.l.t
        omega
  have hrl : rs.length = ps.length := by
    have := congrArg List.length k4
    simpa using this
  have hst : 0 ≤ z ∧ z < ns.length := by
    unfold start at h4
    rcases hs : S.st with _ | x
    · rw [hs] at h4; injection h4 with h4; omega
    · rw [hs] at h4
      simp only at h4
      split at h4
      · injection h4 with h4
        have := find_lt ns x.t
        omega
      · cases h4
  subst h
  have hN := k1.n
  refine ⟨?_, ?_, ?_⟩
  · unfold right
    simp only [Bool.and_eq_true, decide_eq_true_eq]
    have hpl : 1 ≤ ps.length := Nat.pos_of_ne_zero fun e => hg.n (List.eq_nil_of_length_eq_zero e)
    refine ⟨⟨⟨⟨⟨⟨ht.fine hl, ?_⟩, by omega⟩, k2⟩, hst.1⟩, hst.2⟩, ?_⟩
    · unfold nons
      simp only [Bool.and_eq_true, decide_eq_true_eq]
      refine ⟨⟨hns, hN.c⟩, fun i hi => ?_⟩
      unfold non1 non term
      simp only [Bool.and_eq_true, decide_eq_true_eq]
      exact ⟨⟨(hN.nm _ (List.getElem_mem hi)).1, by simpa using find_self hN.nd i hi⟩, find_none.2 (hN.no _ (List.getElem_mem hi))⟩
    · refine rules_tops _ _ _ (fun r hr => rule_ru (k3 r hr)) ?_
      simp only
      rw [k4]
      simpa using htop
  · intro y hy
    have hh : has ⟨ts, ns, rs, z⟩ y = true := has_sy hy
    unfold name
    rw [if_pos hh]
    by_cases h0 : 0 ≤ y
    · obtain ⟨i, rfl⟩ := Int.eq_ofNat_of_zero_le h0
      have hi : i < (names ts).length := by have := hy.1; simp only at this; rw [names_len]; omega
      rw [if_pos h0]
      simp only [Int.toNat_natCast, List.getD, List.getElem?_eq_getElem hi, Option.getD_some]
      unfold look term
      simp only
      rw [find_self ht.nd i hi, if_pos (by omega)]
    · obtain ⟨i, hi0⟩ := Int.eq_ofNat_of_zero_le (show 0 ≤ -1 - y by omega)
      have hi : i < ns.length := by have := hy.2; simp only at this; omega
      rw [if_neg h0, hi0]
      simp only [Int.toNat_natCast, List.getD, List.getElem?_eq_getElem hi, Option.getD_some]
      unfold look term non
      simp only
      rw [if_neg (by have := find_none.2 (hN.no _ (List.getElem_mem hi)); omega), find_self hN.nd i hi, if_pos (by omega)]
      congr 1
      omega
  · have hc := ht.c
    have hnc := hN.c
    have hLts := few L ts hl
    refine ⟨fun x hx => ⟨tx_named (ht.nm x hx), ?_, ?_⟩, fun x hx => tx_named ⟨by unfold named; rw [(hN.nm x hx).1]; rfl, (hN.nm x hx).2⟩, fun x hx => ⟨?_, ?_, ?_⟩, ?_⟩
    · rcases ht.lv x hx with ⟨q, _⟩ | ⟨n, q1, q2, q3, q4, q5, q6⟩ <;> (unfold In; omega)
    · rcases ht.lv x hx with ⟨_, q⟩ | ⟨n, q1, q2, q3, q4, q5, q6⟩ <;> (unfold In; omega)
    · have hm : x.l ∈ rs.map Rl.l := List.mem_map.2 ⟨x, hx, rfl⟩
      rw [k4] at hm
      simp at hm
      obtain ⟨p, _, e⟩ := hm
      have h1 := find_lt ns p.l.t
      have h2 := find_ge ns p.l.t
      unfold In; omega
    · have := k3 x hx
      unfold Ru at this
      unfold In; omega
    · intro z hz
      have := ((k3 x hx).2.2.2 z hz).1
      unfold Sy at this
      unfold In; omega
    · unfold In; simp only; omega
end Gm
end Go.Proofs.YtoehbkgdodogkaaGreat

/- Pure: a text's source is a good one: its declarations' kinds and names, its rules' references. -/
namespace Go.Proofs.YtoehbkgdodogkaaGreat
set_option maxRecDepth 100000

namespace Y
/-- What a declaration of a source keeps. -/
def DclOk (d : Dcl) : Prop := (d.k = 3 ∨ d.k = 4 ∨ d.k = 5 ∨ d.k = 6 ∨ d.k = 7) ∧ d.ns ≠ [] ∧ (d.k = 7 → ∀ x ∈ d.ns, x.k = 1)
theorem decl_fine {ts r : List Tok} {d : Dcl} (h : decl ts = .ok d r) : DclOk d := by
  unfold decl at h
  obtain ⟨t, m, h1, h2⟩ := bind_eq_ok h
  have k0 := (take_ok h1).2
  simp at k0
  split at h2
  · obtain ⟨n, m2, h3, h4⟩ := bind_eq_ok h2
    injection h4 with h5 h6
    subst h5
    have k1 := (take_ok h3).2
    simp at k1
    exact ⟨.inr (.inr (.inr (.inr rfl))), by simp, fun _ x hx => by simp at hx; subst hx; exact k1⟩
  · rename_i h7
    obtain ⟨n, m2, h3, h4⟩ := bind_eq_ok h2
    injection h4 with h5 h6
    subst h5
    exact ⟨by simp only; omega, by simp, fun e => absurd e h7⟩
theorem decls_fine : ∀ (f : Nat) (acc : List Dcl) (ts : List Tok) (ds : List Dcl) (r : List Tok), (∀ d ∈ acc, DclOk d) → decls f acc ts = .ok ds r → ∀ d ∈ ds, DclOk d
  | 0, acc, ts, ds, r, ha, h => by injection h with h1 h2; subst h1; exact ha
  | f + 1, acc, ts, ds, r, ha, h => by
    rw [decls] at h
    split at h
    · injection h with h1 h2; subst h1; exact ha
    · obtain ⟨d, m, h1, h2⟩ := bind_eq_ok h
      refine decls_fine f _ _ _ _ (fun x hx => ?_) h2
      rcases List.mem_append.1 hx with q | q
      · exact ha x q
      · simp at q; subst q; exact decl_fine h1
theorem group_fine {acc ps : List Prd} {ts r : List Tok} (ha : ∀ p ∈ acc, p.l.k = 1) (h : group acc ts = .ok ps r) : ∀ p ∈ ps, p.l.k = 1 := by
  unfold group at h
  obtain ⟨left, m, h1, h2⟩ := bind_eq_ok h
  obtain ⟨t, m2, h3, h4⟩ := bind_eq_ok h2
  have k0 := (take_ok h1).2
  simp at k0
  obtain ⟨u3, ps', e3, g3, i3, n3⟩ := alts_split left _ _ _ _ _ h4
  intro p hp
  rw [g3] at hp
  rcases List.mem_append.1 hp with q | q
  · exact ha p q
  · rw [i3.l p q]; exact k0
theorem groups_fine : ∀ (f : Nat) (acc : List Prd) (ts : List Tok) (ps : List Prd) (r : List Tok), (∀ p ∈ acc, p.l.k = 1) → groups f acc ts = .ok ps r → ∀ p ∈ ps, p.l.k = 1
  | 0, acc, ts, ps, r, ha, h => by injection h with h1 h2; subst h1; exact ha
  | f + 1, acc, ts, ps, r, ha, h => by
    rw [groups] at h
    split at h
    · obtain ⟨ps1, m, h1, h2⟩ := bind_eq_ok h
      exact groups_fine f _ _ _ _ (group_fine ha h1) h2
    · injection h with h1 h2; subst h1; exact ha
theorem source_fine {xs r : List Tok} {s : List Dcl × List Prd} (h : source xs = .ok s r) : (∀ d ∈ s.1, DclOk d) ∧ ∀ p ∈ s.2, p.l.k = 1 := by
  unfold source at h
  obtain ⟨ds, m1, h1, h⟩ := bind_eq_ok h
  obtain ⟨t9, m2, h2, h⟩ := bind_eq_ok h
  obtain ⟨ps1, m3, h3, h⟩ := bind_eq_ok h
  obtain ⟨ps, m4, h4, h⟩ := bind_eq_ok h
  obtain ⟨v, m5, h5, h⟩ := bind_eq_ok h
  injection h with h6 h7
  subst h6
  exact ⟨decls_fine _ _ _ _ _ (by simp) h1, groups_fine _ _ _ _ _ (group_fine (by simp) h3) h4⟩
theorem mem_prefs : ∀ (ps : List Prd) (q : Option Nat) (p : Prd), p ∈ ps → ∀ x ∈ p.refs, x ∈ prefs q ps
  | [], _, _, hp, _, _ => by simp at hp
  | y :: r, q, p, hp, x, hx => by
    rw [prefs]
    rcases List.mem_cons.1 hp with e | e
    · subst e; simp [hx]
    · have := mem_prefs r (some y.l.o) p e x hx
      simp [this]
end Y

theorem tok_named {L : List Int} {x : Tok} (h : Stands L x) (hr : Y.isRef x = true) : Gm.named x.t = true ∧ K.Bytes x.t := by
  refine ⟨?_, h.bytes⟩
  unfold Gm.named
  rw [← h.name, ← h.lit]
  unfold Y.isRef at hr
  simp at hr
  rcases hr with e | e <;> simp [e]
/-- A text's source is a good one. -/
theorem source_good {L : List Int} {xs r : List Tok} {s : List Y.Dcl × List Y.Prd} (hx : Rise L L.length xs) (h : Y.source xs = .ok s r) : Gm.Good s.1 s.2 := by
  obtain ⟨hd, hp⟩ := Y.source_fine h
  have hin := Y.source_in h hx.2
  have hm : ∀ x ∈ Y.listed s.1 s.2, Gm.named x.t = true ∧ K.Bytes x.t := fun x hx' => by
    rw [hin.l] at hx'
    obtain ⟨h1, h2⟩ := List.mem_filter.1 hx'
    exact tok_named (hx.1 x h1).1 h2
  have hdm : ∀ d ∈ s.1, ∀ x ∈ d.ns, x ∈ Y.listed s.1 s.2 := fun d hd x hx' => by
    unfold Y.listed
    exact List.mem_append_left _ (List.mem_flatMap.2 ⟨d, hd, hx'⟩)
  have hpm : ∀ p ∈ s.2, ∀ x ∈ p.refs, x ∈ Y.listed s.1 s.2 := fun p hp x hx' => by
    unfold Y.listed
    exact List.mem_append_right _ (Y.mem_prefs _ _ p hp x hx')
  have hone : ∀ x ∈ Y.listed s.1 s.2, x.k = 1 → T.isName x.t = true := fun x hx' hk => by
    rw [hin.l] at hx'
    have := (hx.1 x (List.mem_filter.1 hx').1).1.name
    rw [← this, hk]; rfl
  refine ⟨fun d h => (hd d h).1, fun d h => (hd d h).2.1, fun d h x hx' => hm x (hdm d h x hx'), fun d h h7 x hx' => hone x (hdm d h x hx') ((hd d h).2.2 h7 x hx'), fun e => hin.n (by rw [e]; rfl), fun p h => ?_, fun p h x hx' => hm x (hpm p h x (by unfold Y.Prd.refs; exact List.mem_append_left _ hx')), fun p h x hx' => hm x (hpm p h x (by unfold Y.Prd.refs; rw [hx']; simp))⟩
  obtain ⟨h1, h2, _⟩ := hin.i p h
  have hs := (hx.1 _ h1).1
  exact ⟨by rw [← hs.name, hp p h]; rfl, hs.bytes⟩
end Go.Proofs.YtoehbkgdodogkaaGreat
