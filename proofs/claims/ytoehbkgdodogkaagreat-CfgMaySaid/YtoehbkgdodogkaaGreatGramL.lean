/- Words for grammars over this program: what a grammar is, where it lies, that it is read. -/
import Derived.Test.YtoehbkgdodogkaaGreatWordsI
import Derived.Test.YtoehbkgdodogkaaGreatBytes
namespace Go.Proofs.YtoehbkgdodogkaaGreat
set_option maxRecDepth 100000
open Go.RowKit

/-- A text that may be: bytes, and not more than there can be. -/
def K.Tx (l : List Int) : Prop := K.Bytes l ∧ l.length ≤ 9223372036854775807
namespace Gm
/-- A terminal. -/
structure Tm where
  nm : List Int
  lv : Int
  wy : Int
/-- A rule. -/
structure Rl where
  l : Int
  r : List Int
  p : Int
/-- A grammar. -/
structure Gr where
  ts : List Tm
  ns : List (List Int)
  rs : List Rl
  st : Int
/-- A number of 64 bits. -/
def In (z : Int) : Prop := -9223372036854775808 ≤ z ∧ z ≤ 9223372036854775807
/-- Each number of a grammar is one of 64 bits, each name a text. -/
structure Fit (G : Gr) : Prop where
  t : ∀ x ∈ G.ts, K.Tx x.nm ∧ In x.lv ∧ In x.wy
  n : ∀ x ∈ G.ns, K.Tx x
  r : ∀ x ∈ G.rs, In x.l ∧ In x.p ∧ ∀ z ∈ x.r, In z
  s : In G.st
end Gm

/-- A slice value's address A, with these terminals, all of it below block B. -/
def RdTm (w : World) (B : Nat) (A : Option Addr) (ts : List Gm.Tm) : Prop :=
  ts.length ≠ 0 → ∃ g o, A = some ⟨g, o, none⟩ ∧ g < B ∧ ∀ i (h : i < ts.length), w.cell? ⟨g, o + i * 3, none⟩ = some (.string (K.str ts[i].nm)) ∧ w.cell? ⟨g, o + i * 3 + 1, none⟩ = some (.int .i64 ts[i].lv) ∧ w.cell? ⟨g, o + i * 3 + 2, none⟩ = some (.int .i64 ts[i].wy)
/-- A slice value's address A, with these names, all of it below block B. -/
def RdN (w : World) (B : Nat) (A : Option Addr) (ns : List (List Int)) : Prop :=
  ns.length ≠ 0 → ∃ g o, A = some ⟨g, o, none⟩ ∧ g < B ∧ ∀ i (h : i < ns.length), w.cell? ⟨g, o + i, none⟩ = some (.string (K.str ns[i]))
/-- A slice value's address A, with these rules, all of it below block B. -/
def RdRl (w : World) (B : Nat) (A : Option Addr) (rs : List Gm.Rl) : Prop :=
  rs.length ≠ 0 → ∃ g o, A = some ⟨g, o, none⟩ ∧ g < B ∧ ∀ i (h : i < rs.length), w.cell? ⟨g, o + i * 3, none⟩ = some (.int .i64 rs[i].l) ∧ (∃ A' c', w.cell? ⟨g, o + i * 3 + 1, none⟩ = some (.slice A' rs[i].r.length c') ∧ rs[i].r.length ≤ c' ∧ c' ≤ 9223372036854775807 ∧ RdI w B A' rs[i].r) ∧ w.cell? ⟨g, o + i * 3 + 2, none⟩ = some (.int .i64 rs[i].p)
/-- A value that is a grammar, all of it below block B. -/
def RdGr (w : World) (B : Nat) (v : Value) (G : Gm.Gr) : Prop :=
  ∃ AT cT AN cN AR cR, v = .agg #[.slice AT G.ts.length cT, .slice AN G.ns.length cN, .slice AR G.rs.length cR, .int .i64 G.st] ∧ (G.ts.length ≤ cT ∧ cT ≤ 9223372036854775807) ∧ (G.ns.length ≤ cN ∧ cN ≤ 9223372036854775807) ∧ (G.rs.length ≤ cR ∧ cR ≤ 9223372036854775807) ∧ RdTm w B AT G.ts ∧ RdN w B AN G.ns ∧ RdRl w B AR G.rs

theorem RdTm.keep {w w' : World} {B : Nat} {A : Option Addr} {ts : List Gm.Tm} (h : RdTm w B A ts) (hk : ∀ g o, g < B → w'.cell? ⟨g, o, none⟩ = w.cell? ⟨g, o, none⟩) : RdTm w' B A ts := fun hn => by
  obtain ⟨g, o, e, hg, hc⟩ := h hn
  exact ⟨g, o, e, hg, fun i hi => ⟨(hk _ _ hg).trans (hc i hi).1, (hk _ _ hg).trans (hc i hi).2.1, (hk _ _ hg).trans (hc i hi).2.2⟩⟩
theorem RdN.keep {w w' : World} {B : Nat} {A : Option Addr} {ns : List (List Int)} (h : RdN w B A ns) (hk : ∀ g o, g < B → w'.cell? ⟨g, o, none⟩ = w.cell? ⟨g, o, none⟩) : RdN w' B A ns := fun hn => by
  obtain ⟨g, o, e, hg, hc⟩ := h hn
  exact ⟨g, o, e, hg, fun i hi => (hk _ _ hg).trans (hc i hi)⟩
theorem RdRl.keep {w w' : World} {B : Nat} {A : Option Addr} {rs : List Gm.Rl} (h : RdRl w B A rs) (hk : ∀ g o, g < B → w'.cell? ⟨g, o, none⟩ = w.cell? ⟨g, o, none⟩) : RdRl w' B A rs := fun hn => by
  obtain ⟨g, o, e, hg, hc⟩ := h hn
  refine ⟨g, o, e, hg, fun i hi => ?_⟩
  obtain ⟨h1, ⟨A', c', h2, h3, h4, h5⟩, h6⟩ := hc i hi
  exact ⟨(hk _ _ hg).trans h1, ⟨A', c', (hk _ _ hg).trans h2, h3, h4, h5.keep hk⟩, (hk _ _ hg).trans h6⟩
theorem RdGr.keep {w w' : World} {B : Nat} {v : Value} {G : Gm.Gr} (h : RdGr w B v G) (hk : ∀ g o, g < B → w'.cell? ⟨g, o, none⟩ = w.cell? ⟨g, o, none⟩) : RdGr w' B v G := by
  obtain ⟨AT, cT, AN, cN, AR, cR, e, h1, h2, h3, h4, h5, h6⟩ := h
  exact ⟨AT, cT, AN, cN, AR, cR, e, h1, h2, h3, h4.keep hk, h5.keep hk, h6.keep hk⟩
theorem RdGr.below {w w' : World} {B B' : Nat} {v : Value} {G : Gm.Gr} (h : RdGr w B v G) (hb : Below B' w w') (hB : B ≤ B') : RdGr w' B v G :=
  h.keep fun g o hg => hb.cell (p := ⟨g, o, none⟩) (Nat.lt_of_lt_of_le hg hB)
theorem RdTm.more {w : World} {B B' : Nat} {A : Option Addr} {ts : List Gm.Tm} (h : RdTm w B A ts) (hB : B ≤ B') : RdTm w B' A ts := fun hn => by
  obtain ⟨g, o, e, hg, hc⟩ := h hn
  exact ⟨g, o, e, by omega, hc⟩
theorem RdN.more {w : World} {B B' : Nat} {A : Option Addr} {ss : List (List Int)} (h : RdN w B A ss) (hB : B ≤ B') : RdN w B' A ss := fun hn => by
  obtain ⟨g, o, e, hg, hc⟩ := h hn
  exact ⟨g, o, e, by omega, hc⟩
theorem RdRl.more {w : World} {B B' : Nat} {A : Option Addr} {rs : List Gm.Rl} (h : RdRl w B A rs) (hB : B ≤ B') : RdRl w B' A rs := fun hn => by
  obtain ⟨g, o, e, hg, hc⟩ := h hn
  refine ⟨g, o, e, by omega, fun i hi => ?_⟩
  obtain ⟨h1, ⟨A', c', h2, h3, h4, h5⟩, h6⟩ := hc i hi
  exact ⟨h1, ⟨A', c', h2, h3, h4, h5.more hB⟩, h6⟩
theorem RdGr.more {w : World} {B B' : Nat} {v : Value} {G : Gm.Gr} (h : RdGr w B v G) (hB : B ≤ B') : RdGr w B' v G := by
  obtain ⟨AT, cT, AN, cN, AR, cR, e, h1, h2, h3, h4, h5, h6⟩ := h
  exact ⟨AT, cT, AN, cN, AR, cR, e, h1, h2, h3, h4.more hB, h5.more hB, h6.more hB⟩
theorem RdGr.up {w w' : World} {v : Value} {G : Gm.Gr} (h : RdGr w w.heap.size v G) (hb : Below w.heap.size w w') : RdGr w' w'.heap.size v G := (h.below hb (Nat.le_refl _)).more hb.size
theorem RdGr.drewN {w : World} {B : Nat} {v : Value} {G : Gm.Gr} (h : RdGr w B v G) (n : Nat) : RdGr (w.drewN n) B v G := h

/-- Each text is one of bytes. -/
theorem K.txt (s : ByteArray) (hs : s.size ≤ maxLen) : ∃ l, K.Tx l ∧ s = K.str l := by
  refine ⟨s.data.toList.map fun b => (b.toNat : Int), ⟨?_, by rw [List.length_map]; unfold maxLen at hs; exact hs⟩, ?_⟩
  · intro z hz
    obtain ⟨b, _, rfl⟩ := List.mem_map.1 hz
    have := b.toNat_lt
    omega
  · unfold K.str K.bytes
    rw [List.map_map]
    have : ((fun z : Int => UInt8.ofNat z.toNat) ∘ fun b : UInt8 => (b.toNat : Int)) = id := by
      funext b; simp
    rw [this]; simp
/-- For each place one: they are a list. -/
theorem list_of {α : Type} (n : Nat) (p : Nat → α → Prop) (h : ∀ i, i < n → ∃ a, p i a) : ∃ l : List α, l.length = n ∧ ∀ i (hi : i < l.length), p i l[i] := by
  induction n with
  | zero => exact ⟨[], rfl, fun i hi => by simp at hi⟩
  | succ n ih =>
    obtain ⟨l, hl, hp⟩ := ih (fun i hi => h i (by omega))
    obtain ⟨a, ha⟩ := h n (by omega)
    refine ⟨l ++ [a], by simp [hl], fun i hi => ?_⟩
    rcases Nat.lt_or_ge i l.length with h1 | h1
    · rw [List.getElem_append_left h1]; exact hp i h1
    · have : i = l.length := by simp at hi; omega
      subst this
      simp only [List.getElem_concat_length]
      rw [hl]
      exact ha
end Go.Proofs.YtoehbkgdodogkaaGreat
