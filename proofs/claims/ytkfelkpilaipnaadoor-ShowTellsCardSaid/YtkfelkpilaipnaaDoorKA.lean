/- Part of the proofs over this program: Shared, WordsB, Bytes, LexL, LexFn, LexQuo, LexStr, LexSkip, LexPiece, LexPiece2, Floats, PlaceFn, PlaceAt, LexTok, LexScan, YaccL, WordsI, YaccW, LexToks, YaccRd, Calm. -/
import Derived.Test.YtkfelkpilaipnaaDoorProg
import Derived.WalkKit
import Derived.WalkSpells
import Derived.WalkLawsBesides
import Derived.Deep.Draws
import Derived.BigQuiet
import Derived.Deep.QuietTactic
import Derived.RegionTactic
import Derived.Deep.DeepFit
import Derived.Deep.RegionWith
import Derived.Laws.CopyOwn
import Derived.Laws.OwnMore
import Derived.OwnWalk
import Derived.ProofKit
import Derived.OpenShut
import Derived.Laws.IdiomStrings
import Derived.Lib.IndexLaws
import Derived.Lib.IndexMore
import Derived.Lib.Strings
import Derived.Lib.Bytes
import Derived.Lib.Index
import Derived.Test.YtkfelkpilaipnaaDoorShelf
import Derived.ScopeJumps
import Derived.WalkMore
import Derived.Laws.FloatArith
import Derived.OrdersHeld
namespace Go.Proofs.YtkfelkpilaipnaaDoor
open Go.RowKit

theorem hide {p : Prop} (h : p) : Hid p := h
theorem only_alloc {a w : World} {row : Option Nat} (h : a.grownBy w row) (o : Obj) : a.grownBy (w.alloc o) row :=
  ⟨h.os, h.tape, h.output, Nat.le_trans h.size (by simp), fun i hi hne => (Below.heap_alloc w o i (Nat.lt_of_lt_of_le hi h.size)).trans (h.block i hi hne)⟩
theorem only_set {a w : World} {g : Nat} (h : a.grownBy w (some g)) (i : Nat) (u : Value) : a.grownBy (w.setCell ⟨g, i, none⟩ u) (some g) :=
  ⟨h.os, h.tape, h.output, by simpa [World.setCell] using h.size, fun k hk hne => (Below.heap_setCell w ⟨g, i, none⟩ u k (by rintro rfl; exact hne rfl)).trans (h.block k hk hne)⟩
theorem only_below {a w : World} (h : Below a.heap.size a w) (row : Option Nat) : a.grownBy w row := ⟨h.os, h.tape, h.output, h.size, fun i hi _ => h.block i hi⟩
theorem below_drewN {B : Nat} {a w : World} (h : Below B a w) (n : Nat) : Below B a (w.drewN n) := ⟨h.os, h.tape, h.output, h.size, h.block⟩
theorem ret_int {k : IntKind} {a b : Int} (h : a = b) : Ending.returned (.int k a) = .returned (.int k b) := by rw [h]
theorem ret_bool {a b : Bool} (h : a = b) : Ending.returned (.bool a) = .returned (.bool b) := by rw [h]
theorem run_append_nil {P : Program} (w : World) (base : Nat) (t ty e : TypeId) (i : TypeInfo) (size : Nat) (ht : P.underlying t = some (.slice e)) (hi : P.info? e = some i) (v : Value) (n : Nat) (xs : List Value) (hown : w.ownsRow base e size v n xs) (c : Nat) :
    (Builtin.append_ #[t, t] ty #[v, .slice none 0 c]).run P w = .ok v w := by
  rcases hown.2 with ⟨rfl, rfl⟩ | ⟨g, cap, cur, rfl, _, _, hnc, _⟩
  · simp [Builtin.append_, run_underlying ht, sizeOf, typeInfo, hi, Builtin.lenOf, Builtin.firstCells]
  · simp [Builtin.append_, run_underlying ht, sizeOf, typeInfo, hi, Builtin.lenOf, Builtin.firstCells, hnc, storeCells]

theorem L.gd_lt {l : List Int} {k : Nat} (h : k < l.length) : l.getD k 0 = l[k] := by simp [List.getD, h]
theorem L.gd_ge {l : List Int} {k : Nat} (h : l.length ≤ k) : l.getD k 0 = 0 := by simp [List.getD, h]
theorem L.getD_ext {l m : List Int} (h : l.length = m.length) (k : ∀ i, i < l.length → l.getD i 0 = m.getD i 0) : l = m := by
  apply List.ext_getElem h
  intro i h1 h2
  have := k i h1
  rwa [L.gd_lt h1, L.gd_lt h2] at this
theorem L.take_snoc (l : List Int) (k : Nat) (h : k < l.length) : l.take (k + 1) = l.take k ++ [l.getD k 0] := by
  rw [L.gd_lt h, List.take_succ_eq_append_getElem h]
theorem L.cons_drop (l : List Int) (k : Nat) (h : k < l.length) : l.drop k = l.getD k 0 :: l.drop (k + 1) := by
  rw [L.gd_lt h, List.drop_eq_getElem_cons h]
theorem L.append_getD_lt (l m : List Int) (k : Nat) (h : k < l.length) : (l ++ m).getD k 0 = l.getD k 0 := by
  simp only [List.getD]; rw [List.getElem?_append_left h]
end Go.Proofs.YtkfelkpilaipnaaDoor

namespace Go.Proofs.YtkfelkpilaipnaaDoor
open Go.RowKit Go.ChangeShapes Go.WideShapes Go.ChangeAt

/-- A slice value's address A, with the elements zs, all of it below block B. -/
def RdB (w : World) (B : Nat) (A : Option Addr) (zs : List Int) : Prop :=
  zs.length ≠ 0 → ∃ g o, A = some ⟨g, o, none⟩ ∧ g < B ∧ ∀ j, j < zs.length → w.cell? ⟨g, o + j, none⟩ = some (.int .u8 (zs.getD j 0))

theorem RdB.nil (w : World) (B : Nat) (A : Option Addr) : RdB w B A [] := fun h => absurd rfl h
theorem RdB.keep {w w' : World} {B : Nat} {A : Option Addr} {zs : List Int} (h : RdB w B A zs) (hk : ∀ g o, g < B → w'.cell? ⟨g, o, none⟩ = w.cell? ⟨g, o, none⟩) : RdB w' B A zs := fun hn => by
  obtain ⟨g, o, e, hg, hc⟩ := h hn
  exact ⟨g, o, e, hg, fun j hj => (hk _ _ hg).trans (hc j hj)⟩
theorem RdB.more {w : World} {B B' : Nat} {A : Option Addr} {zs : List Int} (h : RdB w B A zs) (hB : B ≤ B') : RdB w B' A zs := fun hn => by
  obtain ⟨g, o, e, hg, hc⟩ := h hn
  exact ⟨g, o, e, by omega, hc⟩
theorem RdB.below {w w' : World} {B B' : Nat} {A : Option Addr} {zs : List Int} (h : RdB w B A zs) (hb : Below B' w w') (hB : B ≤ B') : RdB w' B A zs :=
  h.keep fun g o hg => hb.cell (p := ⟨g, o, none⟩) (Nat.lt_of_lt_of_le hg hB)
theorem RdB.up {w w' : World} {A : Option Addr} {zs : List Int} (h : RdB w w.heap.size A zs) (hb : Below w.heap.size w w') : RdB w' w'.heap.size A zs := (h.below hb (Nat.le_refl _)).more hb.size
theorem RdB.drewN {w : World} {B : Nat} {A : Option Addr} {zs : List Int} (h : RdB w B A zs) (n : Nat) : RdB (w.drewN n) B A zs := h
theorem RdB.drew {w : World} {B : Nat} {A : Option Addr} {zs : List Int} (h : RdB w B A zs) : RdB w.drew B A zs := h
theorem RdB.alloc {w : World} {B : Nat} {A : Option Addr} {zs : List Int} (h : RdB w B A zs) (hB : B ≤ w.heap.size) (o : Obj) : RdB (w.alloc o) B A zs :=
  h.keep fun g i hg => World.cell?_alloc_lt w o ⟨g, i, none⟩ (Nat.lt_of_lt_of_le hg hB)
theorem RdB.grown {w w' : World} {B : Nat} {A : Option Addr} {zs : List Int} {g : Nat} (h : RdB w B A zs) (hg : w.grownBy w' (some g)) (hB : B ≤ g) (hs : B ≤ w.heap.size) : RdB w' B A zs :=
  h.keep fun p o hp => World.cell?_of_block (hg.block p (by omega) (fun e => by injection e with e; omega))
theorem RdB.take {w : World} {B : Nat} {A : Option Addr} {zs : List Int} (h : RdB w B A zs) (k : Nat) : RdB w B A (zs.take k) := fun hn => by
  have hl : (zs.take k).length ≤ zs.length := by rw [List.length_take]; omega
  obtain ⟨g, o, e, hg, hc⟩ := h (by omega)
  refine ⟨g, o, e, hg, fun j hj => ?_⟩
  rw [hc j (by omega), L.gd_lt hj, L.gd_lt (by omega : j < zs.length), List.getElem_take]
/-- The cells of a slice that reads, by its own address. -/
theorem RdB.cell {w : World} {B : Nat} {zs : List Int} {g o : Nat} (h : RdB w B (some ⟨g, o, none⟩) zs) (j : Nat) (hj : j < zs.length) : w.cell? ⟨g, o + j, none⟩ = some (.int .u8 (zs.getD j 0)) := by
  obtain ⟨g', o', e, _, hc⟩ := h (by omega)
  injection e with e; injection e with e1 e2
  subst e1 e2
  exact hc j hj

/-- Block g is just the numbers ls, of the call's own. -/
def UBB (w : World) (g : Nat) (ls : List Int) : Prop := w.heap[g]? = some (.cells (ls.map (Value.int .u8)).toArray 5 (0, 0))

theorem UBB.lt {w : World} {g : Nat} {ls : List Int} (h : UBB w g ls) : g < w.heap.size := by
  rcases Nat.lt_or_ge g w.heap.size with hlt | hge
  · exact hlt
  · unfold UBB at h; rw [Array.getElem?_eq_none hge] at h; cases h
theorem UBB.cell {w : World} {g : Nat} {ls : List Int} (h : UBB w g ls) (i : Nat) (hi : i < ls.length) : w.cell? ⟨g, i, none⟩ = some (.int .u8 (ls.getD i 0)) := by
  rw [cell_of_row w g i _ _ _ h]; simp [hi, List.getD]
theorem UBB.frozen {w : World} {g : Nat} {ls : List Int} (h : UBB w g ls) (i : Nat) : w.frozen? ⟨g, i, none⟩ = false := frozen_of_row w g i _ _ h
theorem UBB.new (w : World) (ls : List Int) : UBB (w.alloc (.cells (ls.map (Value.int .u8)).toArray 5)) w.heap.size ls := heap_alloc_new w _
theorem UBB.drewN {w : World} {g : Nat} {ls : List Int} (h : UBB w g ls) (n : Nat) : UBB (w.drewN n) g ls := h
theorem UBB.drew {w : World} {g : Nat} {ls : List Int} (h : UBB w g ls) : UBB w.drew g ls := h
theorem UBB.alloc {w : World} {g : Nat} {ls : List Int} (h : UBB w g ls) (o : Obj) : UBB (w.alloc o) g ls := (Below.heap_alloc w o g h.lt).trans h
theorem UBB.far {w : World} {g : Nat} {ls : List Int} (h : UBB w g ls) {p : Addr} (hp : g ≠ p.block) (u : Value) : UBB (w.setCell p u) g ls := (Below.heap_setCell w p u g hp).trans h
theorem UBB.below {w w' : World} {g B : Nat} {ls : List Int} (h : UBB w g ls) (hb : Below B w w') (hg : g < B) : UBB w' g ls := (hb.block g hg).trans h
theorem UBB.grown {w w' : World} {g : Nat} {ls : List Int} {row : Option Nat} (h : UBB w g ls) (hb : w.grownBy w' row) (hg : some g ≠ row) : UBB w' g ls := (hb.block g h.lt hg).trans h
/-- A part of a block of the call's own reads as its numbers. -/
theorem UBB.rd {w : World} {g : Nat} {ls : List Int} (h : UBB w g ls) (o n : Nat) (hn : o + n ≤ ls.length) {B : Nat} (hB : g < B) : RdB w B (some ⟨g, o, none⟩) ((ls.drop o).take n) := fun _ => by
  refine ⟨g, o, rfl, hB, fun j hj => ?_⟩
  have hj' : j < n := by rw [List.length_take] at hj; omega
  rw [h.cell (o + j) (by omega), L.gd_lt hj, L.gd_lt (by omega : o + j < ls.length), List.getElem_take, List.getElem_drop]
/-- A slice of the call's own with these numbers, nil or not. -/
def OwnB (w : World) (base : Nat) (v : Value) (xs : List Int) : Prop := w.ownsRow base 5 1 v xs.length (xs.map (Value.int .u8))

theorem OwnB.nil (w : World) (base : Nat) : OwnB w base (.slice none 0 0) [] := World.ownsRow_nil w base _ _
theorem OwnB.alloc {w : World} {base : Nat} {v : Value} {xs : List Int} (h : OwnB w base v xs) (o : Obj) : OwnB (w.alloc o) base v xs := World.ownsRow.alloc h o
theorem OwnB.drewN {w : World} {base : Nat} {v : Value} {xs : List Int} (h : OwnB w base v xs) (n : Nat) : OwnB (w.drewN n) base v xs := h
theorem OwnB.below {w w' : World} {base B : Nat} {v : Value} {xs : List Int} (h : OwnB w base v xs) (hb : Below B w w') (hB : w.heap.size ≤ B) : OwnB w' base v xs := by
  refine ⟨h.1, ?_⟩
  rcases h.2 with h0 | ⟨g, cap, cur, e, hb1, hg, hr⟩
  · exact .inl h0
  · exact .inr ⟨g, cap, cur, e, hb1, (hb.block g (Nat.lt_of_lt_of_le (Array.getElem?_eq_some_iff.1 hg).1 hB)).trans hg, hr⟩
theorem OwnB.form {w : World} {base : Nat} {v : Value} {xs : List Int} (h : OwnB w base v xs) : ∃ A c, v = .slice A xs.length c ∧ xs.length ≤ c ∧ c ≤ maxLen ∧ RdB w w.heap.size A xs := by
  rcases h.2 with ⟨rfl, h0⟩ | ⟨g, cap, cur, rfl, hb, hg, hn, hm, hs, ht⟩
  · exact ⟨none, 0, by rw [h0], by omega, by unfold maxLen; omega, fun hc => absurd h0 hc⟩
  · refine ⟨some ⟨g, 0, none⟩, cap, rfl, hn, hm, fun _ => ⟨g, 0, rfl, ?_, fun j hj => ?_⟩⟩
    · exact (Array.getElem?_eq_some_iff.1 hg).1
    · have hc := World.ownsRow.cells h (g := g) rfl j (.int .u8 (xs.getD j 0)) (by simp [hj, List.getD])
      have e : ((⟨g, 0, none⟩ : Addr).add j) = ⟨g, 0 + j, none⟩ := by unfold Addr.add; by_cases h0 : j = 0 <;> simp [h0]
      rw [e] at hc; exact hc
theorem OwnB.mono {w : World} {base base' : Nat} {v : Value} {xs : List Int} (h : OwnB w base v xs) (hb : base' ≤ base) : OwnB w base' v xs := by
  refine ⟨h.1, ?_⟩
  rcases h.2 with h0 | ⟨g, cap, cur, e, hb1, hr⟩
  · exact .inl h0
  · exact .inr ⟨g, cap, cur, e, by omega, hr⟩

/-- A slice of the call's own that is not empty: where it lies; its cells are read and written one by one. -/
theorem OwnB.addr {w : World} {base : Nat} {v : Value} {xs : List Int} (h : OwnB w base v xs) (h0 : xs.length ≠ 0) : ∃ g c, v = .slice (some ⟨g, 0, none⟩) xs.length c ∧ xs.length ≤ c ∧ c ≤ maxLen ∧ base ≤ g := by
  rcases h.2 with ⟨_, h1⟩ | ⟨g, cap, cur, rfl, hb, hg, hn, hm, hs, ht⟩
  · exact absurd h1 h0
  · exact ⟨g, cap, rfl, hn, hm, hb⟩
theorem OwnB.cellAt {w : World} {base g n c : Nat} {xs : List Int} (h : OwnB w base (.slice (some ⟨g, 0, none⟩) n c) xs) (hn : n = xs.length) (j : Nat) (hj : j < xs.length) : w.cell? ⟨g, j, none⟩ = some (.int .u8 (xs.getD j 0)) := by
  subst hn
  rw [World.ownsRow.cellAt h j (by omega)]
  simp [hj, List.getD]
theorem OwnB.stored {w : World} {base g n c : Nat} {xs : List Int} (h : OwnB w base (.slice (some ⟨g, 0, none⟩) n c) xs) (hn : n = xs.length) (j : Nat) (z : Int) : OwnB (w.setCell ⟨g, j, none⟩ (.int .u8 z)) base (.slice (some ⟨g, 0, none⟩) n c) (xs.set j z) := by
  subst hn
  have := (World.ownsRow.stored h j (.int .u8 z)).1
  unfold OwnB
  rw [List.length_set, List.map_set]; exact this

/-- A slice of such numbers that came in: nil, or a row of so many cells. -/
def IsRowB (w : World) (a : Option Addr) (len cap : Nat) (zs : List Int) : Prop :=
  (a = none ∧ len = 0 ∧ cap = 0 ∧ zs = []) ∨
  ∃ x, a = some x ∧ len ≤ cap ∧ cap ≤ maxLen ∧ zs.length = cap ∧ (∀ i, i < zs.length → w.cell? (x.add i) = some (.int .u8 (zs.getD i 0))) ∧ ∀ n ∈ zs, (Lit.int .u8 n).wf = true

theorem IsRowB.rd {w : World} {a : Option Addr} {len cap : Nat} {zs : List Int} (h : IsRowB w a len cap zs) : ∃ xs, xs.length = len ∧ len ≤ cap ∧ cap ≤ 9223372036854775807 ∧ (∀ n ∈ xs, (Lit.int .u8 n).wf = true) ∧ RdB w w.heap.size a xs := by
  rcases h with ⟨rfl, rfl, rfl, rfl⟩ | ⟨x, rfl, hl, hm, hz, hc, hw⟩
  · exact ⟨[], rfl, Nat.le_refl _, by omega, by simp, RdB.nil _ _ _⟩
  · refine ⟨zs.take len, by rw [List.length_take]; omega, hl, by unfold maxLen at hm; omega, ?_, ?_⟩
    · intro n hn
      exact hw n (List.mem_of_mem_take hn)
    · intro h0
      have hlen : len ≠ 0 := by rw [List.length_take] at h0; omega
      obtain ⟨b, off, rfl, hc'⟩ := ints_at hc (by omega)
      refine ⟨b, off, rfl, block_lt_of_cell (hc' 0 (by omega)), fun j hj => ?_⟩
      have hj' : j < len := by rw [List.length_take] at hj; omega
      rw [hc' j (by omega), L.gd_lt hj, L.gd_lt (by omega : j < zs.length), List.getElem_take]
end Go.Proofs.YtkfelkpilaipnaaDoor

namespace Go.Proofs.YtkfelkpilaipnaaDoor
open Go.RowKit

namespace K
def Bytes (l : List Int) : Prop := ∀ z ∈ l, 0 ≤ z ∧ z < 256
theorem Bytes.nil : Bytes [] := by simp [Bytes]
theorem Bytes.tl {z : Int} {r : List Int} (h : Bytes (z :: r)) : Bytes r := fun x hx => h x (List.mem_cons_of_mem _ hx)
theorem Bytes.hd {z : Int} {r : List Int} (h : Bytes (z :: r)) : 0 ≤ z ∧ z < 256 := h z (List.mem_cons_self ..)
theorem Bytes.app {l m : List Int} (h : Bytes l) (k : Bytes m) : Bytes (l ++ m) := fun z hz => by
  rcases List.mem_append.1 hz with h1 | h1
  · exact h z h1
  · exact k z h1
theorem Bytes.take {l : List Int} (h : Bytes l) (k : Nat) : Bytes (l.take k) := fun z hz => h z (List.mem_of_mem_take hz)
theorem Bytes.drop {l : List Int} (h : Bytes l) (k : Nat) : Bytes (l.drop k) := fun z hz => h z (List.mem_of_mem_drop hz)
theorem Bytes.getD {l : List Int} (h : Bytes l) (k : Nat) : 0 ≤ l.getD k 0 ∧ l.getD k 0 < 256 := by
  by_cases hk : k < l.length
  · rw [L.gd_lt hk]; exact h _ (List.getElem_mem hk)
  · rw [L.gd_ge (by omega)]; omega
theorem Bytes.set {l : List Int} (h : Bytes l) (k : Nat) {z : Int} (h1 : 0 ≤ z) (h2 : z < 256) : Bytes (l.set k z) := fun x hx => by
  rcases List.mem_or_eq_of_mem_set hx with h3 | h3
  · exact h x h3
  · subst h3; exact ⟨h1, h2⟩

end K

theorem RdB.drop {w : World} {B : Nat} {g o : Nat} {zs : List Int} (h : RdB w B (some ⟨g, o, none⟩) zs) (k : Nat) : RdB w B (some ⟨g, o + k, none⟩) (zs.drop k) := fun hn => by
  have hl : (zs.drop k).length = zs.length - k := by rw [List.length_drop]
  obtain ⟨g', o', e, hg, hc⟩ := h (by omega)
  injection e with e; injection e with e1 e2
  subst e1 e2
  refine ⟨g, o + k, rfl, hg, fun j hj => ?_⟩
  rw [show o + k + j = o + (k + j) by omega, hc (k + j) (by omega), L.gd_lt hj, L.gd_lt (by omega : k + j < zs.length), List.getElem_drop]

/-- Bytes as a text. -/
def K.bytes (l : List Int) : List UInt8 := l.map fun z => UInt8.ofNat z.toNat
def K.str (l : List Int) : ByteArray := ⟨(K.bytes l).toArray⟩
theorem K.bytes_at {l : List Int} (h : K.Bytes l) (j : Nat) (hj : j < (K.bytes l).length) : (((K.bytes l)[j]).toNat : Int) = l.getD j 0 := by
  have hj' : j < l.length := by simpa [K.bytes] using hj
  have hb := h.getD j
  rw [L.gd_lt hj'] at hb ⊢
  simp only [K.bytes, List.getElem_map]
  generalize l[j] = z at *
  have : (UInt8.ofNat z.toNat).toNat = z.toNat := by simp [UInt8.toNat_ofNat']; omega
  rw [this]; omega
theorem K.bytes_inj {l m : List Int} (hl : K.Bytes l) (hm : K.Bytes m) (h : K.bytes l = K.bytes m) : l = m := by
  have hlen : l.length = m.length := by have := congrArg List.length h; simpa [K.bytes] using this
  refine L.getD_ext hlen fun i hi => ?_
  have h1 := K.bytes_at hl i (by simpa [K.bytes] using hi)
  have h2 := K.bytes_at hm i (by simpa [K.bytes] using (hlen ▸ hi))
  rw [← h1, ← h2]
  simp only [h]
theorem K.str_eq {l m : List Int} (hl : K.Bytes l) (hm : K.Bytes m) : (K.str l = K.str m) ↔ l = m := by
  constructor
  · intro h
    refine K.bytes_inj hl hm ?_
    have := congrArg (fun s : ByteArray => s.data.toList) h
    simpa [K.str] using this
  · rintro rfl; rfl

theorem str_ne {a b : ByteArray} (h : a ≠ b) : (a.toList == b.toList) = false := by
  rw [ByteArray.toList_eq, ByteArray.toList_eq, beq_eq_false_iff_ne]
  intro e
  apply h
  cases a; cases b
  simpa using e

/-- string(b): no memory is asked. -/
theorem str_conv {w : World} {B : Nat} {A : Option Addr} {l : List Int} (h : RdB w B A l) (hl : K.Bytes l) (c : Nat) :
    (convert 36 9 (.slice A l.length c)).run Tryd.prog w = .ok (.string (K.str l)) w := by
  have hlen : (K.bytes l).length = l.length := by simp [K.bytes]
  rcases Nat.eq_zero_or_pos l.length with h0 | h0
  · have hn := List.eq_nil_of_length_eq_zero h0
    subst hn
    rw [run_convert_bytes_string w _ _ 5 A _ c Tryd.underlying36 Tryd.underlying5 Tryd.underlying9]
    rcases A with _ | ad
    · rfl
    · rw [run_bytesToString w ad [].length c [] (by rfl)]; rfl
  · obtain ⟨g, o, rfl, _, hc⟩ := h (by omega)
    rw [← hlen]
    refine run_convert_bytes_back w _ _ 5 ⟨g, o, none⟩ c (K.bytes l) Tryd.underlying36 Tryd.underlying5 Tryd.underlying9 fun j hj => ?_
    have e : ((⟨g, o, none⟩ : Addr).add j) = ⟨g, o + j, none⟩ := by unfold Addr.add; by_cases h0 : j = 0 <;> simp [h0]
    rw [e, hc j (by omega), K.bytes_at hl j hj]

theorem bytes_lit (l : List Int) (h : (l.all fun z => decide (0 ≤ z) && decide (z < 256)) = true) : K.Bytes l := fun z hz => by
  have := List.all_eq_true.1 h z hz
  simpa using this

/-- Bytes that are built of a text's own: their block bears the mark of the run-time behind its last cell. -/
def cellsM (b : List Int) : Obj := .cells (b.map (Value.int .u8)).toArray 5 (b.length, b.length + 1)
theorem litM (w : World) (b : List Int) : RdB (w.alloc (cellsM b)) (w.alloc (cellsM b)).heap.size (some ⟨w.heap.size, 0, none⟩) b ∧ Below w.heap.size w (w.alloc (cellsM b)) := by
  refine ⟨fun _ => ⟨w.heap.size, 0, rfl, by simp, fun j hj => ?_⟩, (Below.refl _ _).alloc (Nat.le_refl _) _⟩
  have := World.cell?_alloc_mark w (b.map (Value.int .u8)).toArray 5 (b.length, b.length + 1) (0 + j)
  unfold cellsM
  rw [this]
  simp [hj, List.getD]
theorem lit_conv (w : World) (b : List Int) (n c : Nat) : (convert 36 36 (.slice (some ⟨w.heap.size, 0, none⟩) n c)).run Tryd.prog (w.alloc (.cells (b.map (Value.int .u8)).toArray 5)) = .ok (.slice (some ⟨w.heap.size, 0, none⟩) n c) (w.alloc (cellsM b)) := by
  have hsh : (w.alloc (.cells (b.map (Value.int .u8)).toArray 5)).shape? w.heap.size = some (5, b.length) := by
    unfold World.shape?
    rw [heap_alloc_new]; simp
  have hfr : (w.alloc (.cells (b.map (Value.int .u8)).toArray 5)).freeze ⟨w.heap.size, b.length, none⟩ 1 = w.alloc (cellsM b) := by
    have hm : ∀ (a : Array Obj) (x : Obj) (f : Obj → Obj), (a.push x).modify a.size f = a.push (f x) := by
      intro a x f
      apply Array.ext
      · simp
      · intro i h1 h2
        simp only [Array.getElem_modify, Array.getElem_push]
        by_cases h : a.size = i
        · subst h; simp
        · have hi : i < a.size := by simp at h1; omega
          simp [h, hi]
    unfold World.freeze
    rw [if_neg (by decide)]
    show ({ w with heap := (w.heap.push (.cells (b.map (Value.int .u8)).toArray 5)).modify w.heap.size _ } : World) = _
    rw [hm]
    rfl
  simp [convert, run_underlying Tryd.underlying36, run_underlying Tryd.underlying5, markStringish, hsh]
  exact hfr

end Go.Proofs.YtkfelkpilaipnaaDoor

namespace Go.Proofs.YtkfelkpilaipnaaDoor
set_option maxRecDepth 100000

namespace T
def small (z : Int) : Bool := decide (97 ≤ z) && decide (z ≤ 122)
def head (z : Int) : Bool := small z || (decide (65 ≤ z) && decide (z ≤ 90)) || z == 95
def tail (z : Int) : Bool := (decide (48 ≤ z) && decide (z ≤ 57)) || z == 46
def inName (z : Int) : Bool := head z || tail z
/-- How many fit at the beginning. -/
def run (p : Int → Bool) : List Int → Nat
  | [] => 0
  | z :: r => if p z then run p r + 1 else 0
def nsize : List Int → Nat
  | [] => 0
  | z :: r => if head z then run inName r + 1 else 0
def isName (l : List Int) : Bool := decide (l.length ≤ 20) && (decide (l.length ≠ 0) && decide (nsize l = l.length))
def isSign (l : List Int) : Bool := l == [92, 110] || l == [92, 116] || l == [92, 92] || l == [92, 39] || (match l with | [z] => decide (32 ≤ z) && decide (z ≤ 126) && (z != 39) && (z != 92) | _ => false)
def isLit : List Int → Bool
  | [a, b, c] => a == 39 && c == 39 && decide (32 ≤ b) && decide (b ≤ 126) && (b != 39) && (b != 92)
  | [a, b, c, d] => a == 39 && d == 39 && b == 92 && (c == 110 || c == 116 || c == 92 || c == 39)
  | _ => false

theorem nsize_cons (z : Int) (r : List Int) : nsize (z :: r) = if head z then run inName r + 1 else 0 := rfl
theorem run_le (p : Int → Bool) (l : List Int) : run p l ≤ l.length := by
  induction l with
  | nil => simp [run]
  | cons z r ih => unfold run; split <;> simp <;> omega
theorem nsize_le (l : List Int) : nsize l ≤ l.length := by
  cases l with
  | nil => simp [nsize]
  | cons z r => rw [nsize_cons]; have := run_le inName r; split <;> simp <;> omega
theorem run_next (p : Int → Bool) (l : List Int) (k : Nat) (h : k < l.length) : run p (l.drop k) = if p (l.getD k 0) then run p (l.drop (k + 1)) + 1 else 0 := by
  rw [L.cons_drop l k h]; rfl
theorem run_end (p : Int → Bool) (l : List Int) (k : Nat) (h : l.length ≤ k) : run p (l.drop k) = 0 := by
  rw [List.drop_eq_nil_of_le h]; rfl
theorem nsize_first (l : List Int) (h : 0 < l.length) : nsize l = if head (l.getD 0 0) then run inName (l.drop 1) + 1 else 0 := by
  cases l with
  | nil => simp at h
  | cons z r => rfl
theorem run_full (p : Int → Bool) (l : List Int) : run p l = l.length ↔ ∀ j, j < l.length → p (l.getD j 0) = true := by
  induction l with
  | nil => simp [run]
  | cons z r ih =>
    unfold run
    constructor
    · intro h j hj
      by_cases hz : p z = true
      · rw [if_pos hz] at h
        simp at h
        cases j with
        | zero => simpa using hz
        | succ j => have := ih.1 h j (by simp at hj; omega); simpa using this
      · rw [if_neg hz] at h; simp at h
    · intro h
      have h0 := h 0 (by simp)
      have : p z = true := by simpa using h0
      rw [if_pos this]
      have := ih.2 (fun j hj => by have := h (j + 1) (by simp; omega); simpa using this)
      simp [this]
theorem run_take (p : Int → Bool) (l : List Int) (k : Nat) (h : k ≤ run p l) : run p (l.take k) = k := by
  induction l generalizing k with
  | nil => simp [run] at h; subst h; rfl
  | cons z r ih =>
    cases k with
    | zero => rfl
    | succ k =>
      unfold run at h
      by_cases hz : p z = true
      · rw [if_pos hz] at h
        simp only [List.take_succ_cons]
        unfold run
        rw [if_pos hz, ih k (by omega)]
      · rw [if_neg hz] at h; omega
theorem nsize_take (l : List Int) (k : Nat) (h : k ≤ nsize l) : nsize (l.take k) = k := by
  cases l with
  | nil => simp [nsize] at h; subst h; rfl
  | cons z r =>
    cases k with
    | zero => rfl
    | succ k =>
      rw [nsize_cons] at h
      by_cases hz : head z = true
      · rw [if_pos hz] at h
        simp only [List.take_succ_cons]
        rw [nsize_cons, if_pos hz, run_take _ _ _ (by omega)]
      · rw [if_neg hz] at h; omega
/-- A name, in the words of its first byte and all others. -/
theorem isName_iff (l : List Int) : isName l = (decide (l.length ≠ 0) && decide (l.length ≤ 20) && head (l.getD 0 0) && decide (∀ j, j < l.length → inName (l.getD j 0) = true)) := by
  cases l with
  | nil => simp [isName]
  | cons z r =>
    rw [Bool.eq_iff_iff]
    have hr := run_full inName r
    unfold isName
    simp only [Bool.and_eq_true, decide_eq_true_eq]
    constructor
    · rintro ⟨h1, h2, h3⟩
      rw [nsize_cons] at h3
      by_cases hz : head z = true
      · rw [if_pos hz] at h3
        refine ⟨⟨⟨by simp, h1⟩, by simpa using hz⟩, fun j hj => ?_⟩
        cases j with
        | zero => simp [inName, hz]
        | succ j =>
          have := hr.1 (by simpa using h3) j (by simp at hj; omega)
          simpa using this
      · rw [if_neg hz] at h3; simp at h3
    · rintro ⟨⟨⟨h1, h2⟩, h3⟩, h4⟩
      refine ⟨h2, by simp, ?_⟩
      rw [nsize_cons, if_pos (by simpa using h3)]
      have := hr.2 (fun j hj => by have := h4 (j + 1) (by simp; omega); simpa using this)
      simp [this]
theorem isLit_len {l : List Int} (h : isLit l = true) : l.length = 3 ∨ l.length = 4 := by
  unfold isLit at h
  split at h
  · left; rfl
  · right; rfl
  · cases h
theorem isLit_mid (m : List Int) : isLit (39 :: (m ++ [39])) = isSign m := by
  match m with
  | [] => rfl
  | [b] => simp [isLit, isSign, Bool.and_assoc]
  | [b, c] =>
    by_cases h1 : b = 92
    · subst h1; simp [isLit, isSign]
    · have : (b == 92) = false := by simpa using h1
      simp [isLit, isSign, this]
  | b :: c :: d :: r =>
    simp only [List.cons_append]
    have : isLit (39 :: b :: c :: d :: (r ++ [39])) = false := by
      unfold isLit
      cases r with
      | nil => rfl
      | cons e r => rfl
    rw [this]; simp [isSign]
theorem isLit_bare (l : List Int) (h : isLit l = true) : ∃ m, l = 39 :: (m ++ [39]) := by
  match l, h with
  | [a, b, c], h =>
    simp [isLit] at h
    obtain ⟨⟨⟨⟨⟨rfl, rfl⟩, _⟩, _⟩, _⟩, _⟩ := h
    exact ⟨[b], rfl⟩
  | [a, b, c, d], h =>
    simp [isLit] at h
    obtain ⟨⟨⟨rfl, rfl⟩, _⟩, _⟩ := h
    exact ⟨[b, c], rfl⟩
/-- Nothing is a name and a literal. -/
theorem name_lit (l : List Int) (h : isName l = true) : isLit l = false := by
  rcases hl : isLit l with _ | _
  · rfl
  · obtain ⟨m, rfl⟩ := isLit_bare l hl
    rw [isName_iff] at h
    have : head 39 = false := by decide
    simp [this] at h

/-- The first place of a text in another one; below 0: there is none. -/
def ix (l s : List Int) : Int := Lib.index (Lib.bytesOf l) (Lib.bytesOf s)
def pre (l s : List Int) : Bool := Lib.hasPrefix (Lib.bytesOf l) (Lib.bytesOf s)
/-- What is told of a piece: its kind, its size, what is wrong. -/
abbrev P3 := Int × Nat × Int
def skip (l : List Int) (f : Nat) (s : List Int) : P3 := if ix (l.drop f) s < 0 then (0, 0, 4) else (0, f + (ix (l.drop f) s).toNat + s.length, 0)
def line (l : List Int) : List Int := if 0 ≤ ix l [10] then l.take (ix l [10]).toNat else l
def comment (l : List Int) : P3 := if pre l [47, 42] then skip l 2 [42, 47] else if pre l [47, 47] then (0, (line l).length, 0) else (0, 0, 3)
/-- Up to a quote's end, that one too. -/
def quoted (q : Int) : List Int → Option Nat
  | [] => none
  | z :: r => if z = q then some 1 else if z = 92 then (match r with | [] => none | _ :: r' => (quoted q r').map (· + 2)) else (quoted q r).map (· + 1)
/-- How many braces are open behind a byte. -/
def ostep (z o : Int) : Int := if z = 123 then o + 1 else if z = 125 then o - 1 else o
def act : Nat → List Int → Int → Option Nat
  | 0, _, _ => none
  | f + 1, l, o => match l with
    | [] => none
    | z :: r => if z = 39 ∨ z = 34 then (match quoted z r with | none => none | some n => (act f (r.drop n) o).map (· + (n + 1)))
      else if 0 < ostep z o then (act f r (ostep z o)).map (· + 1) else some 1
def action (l : List Int) : P3 := match act (l.length + 1) l 0 with | none => (0, 0, 4) | some n => (0, n, 0)
def wkind (l : List Int) : Int := if l = [116, 111, 107, 101, 110] then 3 else if l = [108, 101, 102, 116] then 4 else if l = [114, 105, 103, 104, 116] then 5 else if l = [110, 111, 110, 97, 115, 115, 111, 99] then 6 else if l = [115, 116, 97, 114, 116] then 7 else if l = [112, 114, 101, 99] then 8 else 0
def psize (l : List Int) : Nat := 1 + run small (l.drop 1)
def percent (l : List Int) : P3 := if pre l [37, 37] then (9, 2, 0) else if pre l [37, 123] then skip l 2 [37, 125] else if wkind ((l.take (psize l)).drop 1) = 0 then (0, 0, 3) else (wkind ((l.take (psize l)).drop 1), psize l, 0)
def literal (l : List Int) : P3 := if isLit (l.take 3) then (2, 3, 0) else if isLit (l.take 4) then (2, 4, 0) else if isLit (l ++ [39]) || isLit (l ++ [110, 39]) then (0, 0, 4) else (0, 0, 3)
def name (l : List Int) : P3 := if nsize l = 0 then (0, 0, 3) else if 20 < nsize l then (0, 0, 5) else (1, nsize l, 0)
def piece (l : List Int) : P3 :=
  let z := l.getD 0 0
  if z = 32 ∨ z = 9 ∨ z = 10 ∨ z = 13 then (0, 1, 0) else if z = 47 then comment l else if z = 60 then skip (line l) 1 [62] else if z = 123 then action l else if z = 37 then percent l
  else if z = 39 then literal l else if z = 58 then (10, 1, 0) else if z = 124 then (11, 1, 0) else if z = 59 then (12, 1, 0) else name l

theorem bytesOf_len (l : List Int) : (Lib.bytesOf l).length = l.length := by simp [Lib.bytesOf]
theorem ix_ge (l s : List Int) : -1 ≤ ix l s := Lib.index_ge _ _
theorem ix_room (l s : List Int) (h : 0 ≤ ix l s) : (ix l s).toNat + s.length ≤ l.length := by
  have := Lib.index_room _ _ h
  rw [bytesOf_len, bytesOf_len] at this
  unfold ix at *
  omega
theorem line_le (l : List Int) : (line l).length ≤ l.length := by
  unfold line; split
  · rw [List.length_take]; omega
  · exact Nat.le_refl _
theorem pre_len (l s : List Int) (h : pre l s = true) : s.length ≤ l.length := by
  have := List.IsPrefix.length_le (List.isPrefixOf_iff_prefix.1 h)
  rwa [bytesOf_len, bytesOf_len] at this
theorem quoted_le (q : Int) : ∀ (l : List Int) (n : Nat), quoted q l = some n → 1 ≤ n ∧ n ≤ l.length
  | [], n, h => by simp [quoted] at h
  | [z], n, h => by
    unfold quoted at h
    by_cases h1 : z = q
    · rw [if_pos h1] at h; simp at h; subst h; simp
    · rw [if_neg h1] at h
      by_cases h2 : z = 92
      · rw [if_pos h2] at h; simp at h
      · rw [if_neg h2] at h; simp [quoted] at h
  | z :: y :: r, n, h => by
    unfold quoted at h
    by_cases h1 : z = q
    · rw [if_pos h1] at h; simp at h; subst h; simp
    · rw [if_neg h1] at h
      by_cases h2 : z = 92
      · rw [if_pos h2] at h
        simp only [Option.map_eq_some_iff] at h
        obtain ⟨m, hm, rfl⟩ := h
        have := quoted_le q r m hm
        simp; omega
      · rw [if_neg h2] at h
        rw [Option.map_eq_some_iff] at h
        obtain ⟨m, hm, rfl⟩ := h
        have := quoted_le q (y :: r) m hm
        simp at this ⊢; omega
theorem act_le : ∀ (f : Nat) (l : List Int) (o : Int) (n : Nat), act f l o = some n → 1 ≤ n ∧ n ≤ l.length
  | 0, _, _, _, h => by simp [act] at h
  | f + 1, [], o, n, h => by simp [act] at h
  | f + 1, z :: r, o, n, h => by
    unfold act at h
    simp only at h
    split at h
    · split at h
      · cases h
      · rename_i m hq
        rw [Option.map_eq_some_iff] at h
        obtain ⟨k, hk, rfl⟩ := h
        have h1 := act_le f _ _ _ hk
        have h2 := quoted_le z r m hq
        rw [List.length_drop] at h1
        simp; omega
    · generalize ostep z o = o' at h
      by_cases h0 : 0 < o'
      · rw [if_pos h0, Option.map_eq_some_iff] at h
        obtain ⟨k, hk, rfl⟩ := h
        have h1 := act_le f _ _ _ hk
        simp; omega
      · rw [if_neg h0] at h
        injection h with h
        subst h; simp

/-- What a piece is, where nothing is wrong. -/
def Fine (l : List Int) (x : P3) : Prop := (x.2.2 = 0 → 1 ≤ x.2.1 ∧ x.2.1 ≤ l.length ∧ (x.1 = 1 → isName (l.take x.2.1) = true) ∧ (x.1 = 2 → isLit (l.take x.2.1) = true)) ∧ 0 ≤ x.1 ∧ x.1 ≤ 12 ∧ 0 ≤ x.2.2 ∧ x.2.2 ≤ 5 ∧ x.2.1 ≤ l.length
theorem fine_bad (l : List Int) (e : Int) (h : 1 ≤ e) (h2 : e ≤ 5) : Fine l (0, 0, e) := by
  refine ⟨fun h' => ?_, by omega, by omega, by simp; omega, by simpa using h2, by simp⟩
  simp at h'; omega
theorem fine_plain (l : List Int) (k : Int) (n : Nat) (h1 : 1 ≤ n) (h2 : n ≤ l.length) (h3 : k ≠ 1) (h4 : k ≠ 2) (h5 : 0 ≤ k) (h6 : k ≤ 12) : Fine l (k, n, 0) :=
  ⟨fun _ => ⟨h1, h2, fun h => absurd h h3, fun h => absurd h h4⟩, h5, h6, by simp, by simp, h2⟩
theorem skip_fine (l m : List Int) (f : Nat) (s : List Int) (hm : m.length ≤ l.length) (hf : f ≤ m.length) (hs : 1 ≤ s.length) : Fine l (skip m f s) := by
  unfold skip
  have h1 := ix_ge (m.drop f) s
  have h2 := ix_room (m.drop f) s
  rw [List.length_drop] at h2
  split
  · exact fine_bad _ _ (by omega) (by omega)
  · exact fine_plain _ _ _ (by omega) (by omega) (by omega) (by omega) (by omega) (by omega)
theorem line_pos (l : List Int) (h : 0 < l.length) (hb : K.Bytes l) (hz : l.getD 0 0 ≠ 10) : 1 ≤ (line l).length := by
  unfold line
  have hr := ix_room l [10]
  split
  · rename_i h0
    have := hr h0
    rw [List.length_take]
    have hne : ix l [10] ≠ 0 := by
      intro he
      cases l with
      | nil => simp at h
      | cons z r =>
        have hz' : z ≠ 10 := by simpa using hz
        have hb' := hb.hd
        unfold ix at he
        simp only [Lib.bytesOf, List.map_cons, List.map_nil] at he
        unfold Lib.index at he
        have hne : ([UInt8.ofNat (10 : Int).toNat].isPrefixOf (UInt8.ofNat z.toNat :: List.map (fun n => UInt8.ofNat n.toNat) r)) = false := by
          simp only [List.isPrefixOf, Bool.and_true]
          rw [beq_eq_false_iff_ne]
          intro e
          have := congrArg UInt8.toNat e
          simp at this
          omega
        rw [hne] at he
        simp at he
        split at he
        · cases he
        · have := Lib.index_ge (List.map (fun n => UInt8.ofNat n.toNat) r) [10]
          omega
    omega
  · omega
theorem wkind_bd (l : List Int) : 0 ≤ wkind l ∧ wkind l ≤ 8 ∧ (wkind l ≠ 0 → 3 ≤ wkind l) := by
  unfold wkind
  repeat' split
  all_goals omega
theorem psize_le (l : List Int) (h : 0 < l.length) : psize l ≤ l.length := by
  unfold psize
  have := run_le small (l.drop 1)
  rw [List.length_drop] at this
  omega
theorem piece_fine (l : List Int) (h : 0 < l.length) (hb : K.Bytes l) : Fine l (piece l) := by
  unfold piece
  simp only
  have hlp := line_pos l h hb
  have hll := line_le l
  split
  · exact fine_plain _ _ _ (by omega) (by omega) (by omega) (by omega) (by omega) (by omega)
  split
  · rename_i hz
    unfold comment
    split
    · rename_i hp
      have := pre_len _ _ hp
      exact skip_fine l l 2 _ (by omega) (by simpa using this) (by simp)
    split
    · exact fine_plain _ _ _ (hlp (by omega)) hll (by omega) (by omega) (by omega) (by omega)
    · exact fine_bad _ _ (by omega) (by omega)
  split
  · exact skip_fine l _ 1 _ hll (hlp (by omega)) (by simp)
  split
  · unfold action
    split
    · exact fine_bad _ _ (by omega) (by omega)
    · rename_i n hn
      have := act_le _ _ _ _ hn
      exact fine_plain _ _ _ this.1 this.2 (by omega) (by omega) (by omega) (by omega)
  split
  · unfold percent
    have hw := wkind_bd ((l.take (psize l)).drop 1)
    split
    · rename_i hp
      have := pre_len _ _ hp
      exact fine_plain _ _ _ (by omega) (by simpa using this) (by omega) (by omega) (by omega) (by omega)
    split
    · rename_i hp
      have := pre_len _ _ hp
      exact skip_fine l l 2 _ (by omega) (by simpa using this) (by simp)
    split
    · exact fine_bad _ _ (by omega) (by omega)
    · rename_i hk
      have h3 := hw.2.2 hk
      exact fine_plain _ _ _ (by unfold psize; omega) (psize_le l h) (by omega) (by omega) (by omega) (by omega)
  split
  · unfold literal
    split
    · rename_i hk
      have hln := isLit_len hk
      rw [List.length_take] at hln
      exact ⟨fun _ => ⟨by simp, by simp; omega, fun h => by simp at h, fun _ => hk⟩, by simp, by simp, by simp, by simp, by simp; omega⟩
    split
    · rename_i h3 hk
      have hln := isLit_len hk
      rw [List.length_take] at hln
      have h4 : 4 ≤ l.length := by
        rcases Nat.lt_or_ge l.length 4 with h5 | h5
        · have e1 : l.take 4 = l := List.take_of_length_le (by omega)
          have e2 : l.take 3 = l := List.take_of_length_le (by omega)
          rw [e1] at hk; rw [e2] at h3
          exact absurd hk h3
        · exact h5
      exact ⟨fun _ => ⟨by simp, by simp; omega, fun h => by simp at h, fun _ => hk⟩, by simp, by simp, by simp, by simp, by simp; omega⟩
    split
    · exact fine_bad _ _ (by omega) (by omega)
    · exact fine_bad _ _ (by omega) (by omega)
  split
  · exact fine_plain _ _ _ (by omega) (by omega) (by omega) (by omega) (by omega) (by omega)
  split
  · exact fine_plain _ _ _ (by omega) (by omega) (by omega) (by omega) (by omega) (by omega)
  split
  · exact fine_plain _ _ _ (by omega) (by omega) (by omega) (by omega) (by omega) (by omega)
  · unfold name
    have hn := nsize_le l
    split
    · exact fine_bad _ _ (by omega) (by omega)
    split
    · exact fine_bad _ _ (by omega) (by omega)
    · rename_i h1 h2
      refine ⟨fun _ => ⟨by simp; omega, by simpa using hn, fun _ => ?_, fun h => by simp at h⟩, by simp, by simp, by simp, by simp, by simpa using hn⟩
      simp only
      unfold isName
      have e : min (nsize l) l.length = nsize l := by omega
      rw [nsize_take l _ (Nat.le_refl _), List.length_take, e]
      simp only [Bool.and_eq_true, decide_eq_true_eq]
      exact ⟨by omega, by omega, trivial⟩
end T
end Go.Proofs.YtkfelkpilaipnaaDoor

namespace Go.Proofs.YtkfelkpilaipnaaDoor
set_option maxRecDepth 100000
open Go.RowKit

theorem small_any (z : Int) (w : World) :
    Calls Tryd.prog 95 #[.int .u8 z] w fun e w' => e = .returned (.bool (T.small z)) ∧ w = w' := by
  unfold T.small
  go_enter Tryd.func95, Tryd.ntmps95
  go_wp2
  all_goals go_ret
  all_goals (refine ⟨ret_bool ?_, rfl⟩; first | rfl | (rw [Bool.eq_iff_iff]; simp; done) | (rw [Bool.eq_iff_iff]; simp; omega))

theorem head_any (z : Int) (w : World) :
    Calls Tryd.prog 88 #[.int .u8 z] w fun e w' => e = .returned (.bool (T.head z)) ∧ w = w' := by
  have P1 := fun w => small_any z w
  unfold T.head
  generalize T.small z = s at *
  go_enter Tryd.func88, Tryd.ntmps88
  go_wp2_with fail
  refine (P1 _).mono ?_; rintro _ w' ⟨rfl, rfl⟩
  clear P1
  cases s <;> go_wp2
  all_goals go_ret
  all_goals (refine ⟨ret_bool ?_, rfl⟩; first | rfl | (rw [Bool.eq_iff_iff]; simp; done) | (rw [Bool.eq_iff_iff]; simp; omega))

theorem tail_any (z : Int) (w : World) :
    Calls Tryd.prog 89 #[.int .u8 z] w fun e w' => e = .returned (.bool (T.tail z)) ∧ w = w' := by
  unfold T.tail
  go_enter Tryd.func89, Tryd.ntmps89
  go_wp2
  all_goals go_ret
  all_goals (refine ⟨ret_bool ?_, rfl⟩; first | rfl | (rw [Bool.eq_iff_iff]; simp; done) | (rw [Bool.eq_iff_iff]; simp; omega))

theorem first_any (z : Int) (w : World) :
    Calls Tryd.prog 75 #[.int .u8 z] w fun e w' => e = .returned (.bool (T.head z)) ∧ w = w' := by
  unfold T.head T.small
  go_enter Tryd.func75, Tryd.ntmps75
  go_wp2
  all_goals go_ret
  all_goals (refine ⟨ret_bool ?_, rfl⟩; first | rfl | (rw [Bool.eq_iff_iff]; simp; done) | (rw [Bool.eq_iff_iff]; simp; omega))

theorem later_any (z : Int) (w : World) :
    Calls Tryd.prog 76 #[.int .u8 z] w fun e w' => e = .returned (.bool (T.inName z)) ∧ w = w' := by
  have P1 := fun w => first_any z w
  unfold T.inName T.tail
  generalize T.head z = s at *
  go_enter Tryd.func76, Tryd.ntmps76
  go_wp2_with fail
  refine (P1 _).mono ?_; rintro _ w' ⟨rfl, rfl⟩
  clear P1
  cases s <;> go_wp2
  all_goals go_ret
  all_goals (refine ⟨ret_bool ?_, rfl⟩; first | rfl | (rw [Bool.eq_iff_iff]; simp; done) | (rw [Bool.eq_iff_iff]; simp; omega))

set_option maxHeartbeats 1000000 in
theorem nsize_any (A : Option Addr) (c B : Nat) (l : List Int) (w : World) (hr : RdB w B A l) (hn : l.length ≤ 5000) :
    Calls Tryd.prog 62 #[.slice A l.length c] w fun e w' => e = .returned (.int .i64 (T.nsize l)) ∧ w = w' := by
  have HF := hide (T.nsize_first l)
  go_enter Tryd.func62, Tryd.ntmps62
  go_wp2
  go_loop [3] (fun vi => ∃ (k : Nat), k ≤ l.length ∧ vi = .int .i64 k ∧ (k = 0 ∨ T.nsize l = k + T.run T.inName (l.drop k))) (fun vi => l.length - (intOf vi).toNat)
  case atStart => exact ⟨0, by omega, rfl, Or.inl rfl⟩
  case round =>
    obtain ⟨k, hk, rfl, hs⟩ := hrel
    have HS := hide hs
    clear hs
    by_cases hlt : k < l.length
    · obtain ⟨g, o, rfl, _, hcl⟩ := hr (by omega)
      have hcell := hcl k (by omega)
      have HN := hide (T.run_next T.inName l k hlt)
      have P1 := hide (fun w => head_any (l.getD k 0) w)
      have P2 := hide (fun w => tail_any (l.getD k 0) w)
      have HI : Hid (T.inName (l.getD k 0) = (T.head (l.getD k 0) || T.tail (l.getD k 0))) := hide rfl
      have HF' : Hid (k = 0 → T.nsize l = if T.head (l.getD k 0) then T.run T.inName (l.drop 1) + 1 else 0) := hide (by rintro rfl; exact HF.out (by omega))
      clear hcl HF
      generalize l.getD k 0 = z at *
      generalize T.head z = hh at *
      generalize T.tail z = tt at *
      generalize T.inName z = ii at *
      go_wp2_with fail
      refine (P1.out _).mono ?_; rintro _ w' ⟨rfl, rfl⟩
      cases hh
      · by_cases h0 : k = 0
        · subst h0
          go_wp2
          go_ret
          exact ⟨ret_int (by have := HF'.out (by trivial); simp at this; omega), rfl⟩
        · have h1 : 0 < k := by omega
          clear h0
          go_wp2_with fail
          refine (P2.out _).mono ?_; rintro _ w' ⟨rfl, rfl⟩
          cases tt
          · go_wp2
            go_ret
            refine ⟨ret_int ?_, rfl⟩
            have e1 := HS.out; have e2 := HN.out; have e3 := HI.out
            rw [e3] at e2; simp at e2; omega
          · go_wp2
            go_round
            case rel =>
              refine ⟨k + 1, by omega, by go_num, Or.inr ?_⟩
              have e1 := HS.out; have e2 := HN.out; have e3 := HI.out
              rw [e3] at e2; simp at e2; omega
            case measure => simp [intOf]; omega
      · go_wp2
        go_round
        case rel =>
          refine ⟨k + 1, by omega, by go_num, Or.inr ?_⟩
          have e1 := HS.out; have e2 := HN.out; have e3 := HI.out; have e4 := HF'.out
          rw [e3] at e2
          rcases e1 with rfl | e1
          · have := e4 rfl; simp at this; simp; omega
          · simp at e2; omega
        case measure => simp [intOf]; omega
    · obtain rfl : k = l.length := by omega
      clear hr HF
      go_wp2
      go_ret
      refine ⟨ret_int ?_, rfl⟩
      rcases HS.out with h | h
      · obtain rfl := List.eq_nil_of_length_eq_zero h
        simp [T.nsize]
      · rw [T.run_end _ _ _ (Nat.le_refl _)] at h; omega
end Go.Proofs.YtkfelkpilaipnaaDoor

namespace Go.Proofs.YtkfelkpilaipnaaDoor
set_option maxRecDepth 100000
open Go.RowKit

/-- The bytes from one on. -/
def dropA (A : Option Addr) (c k : Nat) : Option Addr := if c = k then A else A.map fun x => x.add k
theorem RdB.dropA {w : World} {B c : Nat} {A : Option Addr} {l : List Int} (h : RdB w B A l) (hc : l.length ≤ c) (k : Nat) : RdB w B (dropA A c k) (l.drop k) := by
  intro hn
  rw [List.length_drop] at hn
  obtain ⟨g, o, rfl, hg, hcl⟩ := h (by omega)
  refine ⟨g, o + k, ?_, hg, fun j hj => ?_⟩
  · have e : ((⟨g, o, none⟩ : Addr).add k) = ⟨g, o + k, none⟩ := by unfold Addr.add; by_cases h0 : k = 0 <;> simp [h0]
    unfold Go.Proofs.YtkfelkpilaipnaaDoor.dropA
    rw [if_neg (by omega), Option.map_some, e]
  · rw [List.length_drop] at hj
    rw [show o + k + j = o + (k + j) by omega, hcl (k + j) (by omega), L.gd_lt (by omega : k + j < l.length), L.gd_lt (by rw [List.length_drop]; exact hj), List.getElem_drop]
def quoV (r : Option Nat) : Value := match r with | none => .tuple #[.int .i64 0, .int .i64 4] | some m => .tuple #[.int .i64 ((m + 1 : Nat) : Int), .int .i64 0]

/-- A piece, as a value. -/
def p3v (x : T.P3) : Value := .tuple #[.int .i64 x.1, .int .i64 (x.2.1 : Nat), .int .i64 x.2.2]
end Go.Proofs.YtkfelkpilaipnaaDoor

namespace Go.Proofs.YtkfelkpilaipnaaDoor
set_option maxRecDepth 100000
open Go.RowKit

theorem K.str_list (l : List Int) : (K.str l).toList = K.bytes l := by rw [ByteArray.toList_eq]; simp [K.str]
theorem str_yes {l m : List Int} (h : l = m) : ((K.str l).toList == K.bytes m) = true := by rw [K.str_list, h]; simp
theorem str_no {l m : List Int} (hl : K.Bytes l) (hm : K.Bytes m) (h : ¬ l = m) : ((K.str l).toList == K.bytes m) = false := by
  rw [K.str_list, beq_eq_false_iff_ne]
  exact fun e => h (K.bytes_inj hl hm e)
theorem K.str_size (l : List Int) : (K.str l).size = l.length := by simp [K.str, K.bytes, ByteArray.size]
theorem K.str_get {l : List Int} (hl : K.Bytes l) (i : Nat) (h : i < (K.str l).size) : (((K.str l)[i]'h).toNat : Int) = l.getD i 0 := by
  have h' : i < (K.bytes l).length := by rw [K.str_size] at h; simpa [K.bytes] using h
  rw [← K.bytes_at hl i h']
  congr 2
theorem isSign_any (l : List Int) (hl : K.Bytes l) (hn : l.length ≤ 9223372036854775807) (w : World) :
    Calls Tryd.prog 87 #[.string (K.str l)] w fun e w' => e = .returned (.bool (T.isSign l)) ∧ w = w' := by
  by_cases h0 : l = [92, 110]
  · have e0 := str_yes (l := l) (m := [92, 110]) h0
    rw [show K.bytes [92, 110] = [92, 110] from rfl] at e0
    rw [show T.isSign l = true from by rw [h0]; rfl]
    clear h0 hl hn
    generalize K.str l = s at *
    go_enter Tryd.func87, Tryd.ntmps87
    go_wp2
    go_ret
    exact ⟨rfl, rfl⟩
  have e0 := str_no hl (m := [92, 110]) (bytes_lit _ (by decide)) h0
  rw [show K.bytes [92, 110] = [92, 110] from rfl] at e0
  by_cases h1 : l = [92, 116]
  · have e1 := str_yes (l := l) (m := [92, 116]) h1
    rw [show K.bytes [92, 116] = [92, 116] from rfl] at e1
    rw [show T.isSign l = true from by rw [h1]; rfl]
    clear h0 h1 hl hn
    generalize K.str l = s at *
    go_enter Tryd.func87, Tryd.ntmps87
    go_wp2
    go_ret
    exact ⟨rfl, rfl⟩
  have e1 := str_no hl (m := [92, 116]) (bytes_lit _ (by decide)) h1
  rw [show K.bytes [92, 116] = [92, 116] from rfl] at e1
  by_cases h2 : l = [92, 92]
  · have e2 := str_yes (l := l) (m := [92, 92]) h2
    rw [show K.bytes [92, 92] = [92, 92] from rfl] at e2
    rw [show T.isSign l = true from by rw [h2]; rfl]
    clear h0 h1 h2 hl hn
    generalize K.str l = s at *
    go_enter Tryd.func87, Tryd.ntmps87
    go_wp2
    go_ret
    exact ⟨rfl, rfl⟩
  have e2 := str_no hl (m := [92, 92]) (bytes_lit _ (by decide)) h2
  rw [show K.bytes [92, 92] = [92, 92] from rfl] at e2
  by_cases h3 : l = [92, 39]
  · have e3 := str_yes (l := l) (m := [92, 39]) h3
    rw [show K.bytes [92, 39] = [92, 39] from rfl] at e3
    rw [show T.isSign l = true from by rw [h3]; rfl]
    clear h0 h1 h2 h3 hl hn
    generalize K.str l = s at *
    go_enter Tryd.func87, Tryd.ntmps87
    go_wp2
    go_ret
    exact ⟨rfl, rfl⟩
  have e3 := str_no hl (m := [92, 39]) (bytes_lit _ (by decide)) h3
  rw [show K.bytes [92, 39] = [92, 39] from rfl] at e3
  by_cases h4 : l = [39]
  · have e4 := str_yes (l := l) (m := [39]) h4
    rw [show K.bytes [39] = [39] from rfl] at e4
    rw [show T.isSign l = false from by rw [h4]; rfl]
    clear h0 h1 h2 h3 h4 hl hn
    generalize K.str l = s at *
    go_enter Tryd.func87, Tryd.ntmps87
    go_wp2
    go_ret
    exact ⟨rfl, rfl⟩
  have e4 := str_no hl (m := [39]) (bytes_lit _ (by decide)) h4
  rw [show K.bytes [39] = [39] from rfl] at e4
  by_cases h5 : l = [92]
  · have e5 := str_yes (l := l) (m := [92]) h5
    rw [show K.bytes [92] = [92] from rfl] at e5
    rw [show T.isSign l = false from by rw [h5]; rfl]
    clear h0 h1 h2 h3 h4 h5 hl hn
    generalize K.str l = s at *
    go_enter Tryd.func87, Tryd.ntmps87
    go_wp2
    go_ret
    exact ⟨rfl, rfl⟩
  have e5 := str_no hl (m := [92]) (bytes_lit _ (by decide)) h5
  rw [show K.bytes [92] = [92] from rfl] at e5
  have hsz := K.str_size l
  by_cases hlen : l.length = 1
  · obtain ⟨z, rfl⟩ := List.length_eq_one_iff.1 hlen
    have hz := hl.hd
    have hv : T.isSign [z] = (decide (32 ≤ z) && decide (z ≤ 126)) := by
      have n1 : (z != 39) = true := by simpa using h4
      have n2 : (z != 92) = true := by simpa using h5
      simp [T.isSign, n1, n2]
    rw [hv]
    have hb : ∀ h : 0 < (K.str [z]).size, (((K.str [z])[0]'h).toNat : Int) = z := fun h => K.str_get hl 0 h
    simp only [List.length_cons, List.length_nil] at hsz
    clear h0 h1 h2 h3 h4 h5 hl hn hv hlen
    generalize K.str [z] = s at *
    have hs1 : ((s.size : Int) == 1) = true := by rw [hsz]; rfl
    have hs0 : 0 < s.size := by omega
    have hb0 := hb hs0
    clear hsz hb
    go_enter Tryd.func87, Tryd.ntmps87
    go_wp2
    all_goals go_ret
    all_goals (refine ⟨ret_bool ?_, rfl⟩; first | rfl | (rw [Bool.eq_iff_iff]; simp; done) | (rw [Bool.eq_iff_iff]; simp; omega))
  · have hv : T.isSign l = false := by
      match l with
      | [] => rfl
      | [z] => exact absurd rfl hlen
      | [a, b] =>
        simp only [T.isSign, Bool.or_false, beq_eq_false_iff_ne.2 h0, beq_eq_false_iff_ne.2 h1, beq_eq_false_iff_ne.2 h2, beq_eq_false_iff_ne.2 h3]
      | a :: b :: c :: r => simp [T.isSign]
    rw [hv]
    have hs1 : (((K.str l).size : Int) == 1) = false := by rw [hsz]; exact beq_eq_false_iff_ne.2 (by omega)
    clear h0 h1 h2 h3 h4 h5 hl hn hv hlen hsz
    generalize K.str l = s at *
    go_enter Tryd.func87, Tryd.ntmps87
    go_wp2
    go_ret
    exact ⟨rfl, rfl⟩

theorem K.str_data (l : List Int) : (K.str l).data.toList = K.bytes l := by simp [K.str]
theorem hasP_yes (r : List Int) : Lib.hasPrefix (K.bytes (39 :: r)) [39] = true := by
  simp [Lib.hasPrefix, K.bytes, List.isPrefixOf]
theorem hasP_no {l : List Int} (hl : K.Bytes l) (h : ∀ r, l ≠ 39 :: r) : Lib.hasPrefix (K.bytes l) [39] = false := by
  cases l with
  | nil => rfl
  | cons z r =>
    have hz := hl.hd
    have hn : z ≠ 39 := fun e => h r (by rw [e])
    simp only [Lib.hasPrefix, K.bytes, List.map_cons, List.isPrefixOf, Bool.and_true]
    rw [beq_eq_false_iff_ne]
    intro e
    have := congrArg UInt8.toNat e
    simp at this
    omega
theorem cutP_yes (r : List Int) (w : World) :
    Calls Tryd.prog 85 #[.string (K.str (39 :: r)), .string ⟨#[39]⟩] w fun e w' => e = .returned (.tuple #[.string (K.str r), .bool true]) ∧ w = w' := by
  refine (Tryd.strings_CutPrefix (K.str (39 :: r)) ⟨#[39]⟩ w).mono fun e w' ⟨he, hw⟩ => ⟨he.trans ?_, hw.symm⟩
  rw [K.str_data]
  have h := hasP_yes r
  unfold Lib.trimPrefix
  rw [show (#[39] : Array UInt8).toList = [39] from rfl, h, if_pos rfl]
  rfl
theorem cutP_no (l : List Int) (hl : K.Bytes l) (h : ∀ r, l ≠ 39 :: r) (w : World) :
    Calls Tryd.prog 85 #[.string (K.str l), .string ⟨#[39]⟩] w fun e w' => e = .returned (.tuple #[.string (K.str l), .bool false]) ∧ w = w' := by
  refine (Tryd.strings_CutPrefix (K.str l) ⟨#[39]⟩ w).mono fun e w' ⟨he, hw⟩ => ⟨he.trans ?_, hw.symm⟩
  rw [K.str_data]
  have h := hasP_no hl h
  unfold Lib.trimPrefix
  rw [show (#[39] : Array UInt8).toList = [39] from rfl, h, if_neg (by simp)]
  rfl
theorem hasS_yes (m : List Int) : Lib.hasSuffix (K.bytes (m ++ [39])) [39] = true := by
  unfold Lib.hasSuffix
  rw [List.isSuffixOf_iff_suffix]
  exact ⟨K.bytes m, by simp [K.bytes]⟩
theorem hasS_no {l : List Int} (hl : K.Bytes l) (h : ∀ m, l ≠ m ++ [39]) : Lib.hasSuffix (K.bytes l) [39] = false := by
  rw [Bool.eq_false_iff]
  intro e
  unfold Lib.hasSuffix at e
  rw [List.isSuffixOf_iff_suffix] at e
  obtain ⟨t, ht⟩ := e
  rcases List.eq_nil_or_concat l with rfl | ⟨m, z, rfl⟩
  · simp [K.bytes] at ht
  · have hz := hl z (by simp)
    have hk : K.bytes (m.concat z) = K.bytes m ++ [UInt8.ofNat z.toNat] := by simp [K.bytes]
    rw [hk] at ht
    have := List.append_inj_right' ht rfl
    injection this with this _
    have := congrArg UInt8.toNat this
    simp at this
    exact h m (by simp; omega)
theorem cutS_yes (m : List Int) (hn : m.length < 9223372036854775807) (w : World) :
    Calls Tryd.prog 86 #[.string (K.str (m ++ [39])), .string ⟨#[39]⟩] w fun e w' => e = .returned (.tuple #[.string (K.str m), .bool true]) ∧ w = w' := by
  refine (Tryd.strings_CutSuffix (K.str (m ++ [39])) ⟨#[39]⟩ w (by rw [K.str_size]; simp; omega)).mono fun e w' ⟨he, hw⟩ => ⟨he.trans ?_, hw.symm⟩
  rw [K.str_data]
  have h := hasS_yes m
  unfold Lib.trimSuffix
  rw [show (#[39] : Array UInt8).toList = [39] from rfl, h, if_pos rfl]
  have : (K.bytes (m ++ [39])).take ((K.bytes (m ++ [39])).length - [(39 : UInt8)].length) = K.bytes m := by
    have e : K.bytes (m ++ [39]) = K.bytes m ++ [39] := by simp [K.bytes]
    rw [e]; simp
  rw [this]
  rfl
theorem cutS_no (l : List Int) (hl : K.Bytes l) (hn : l.length ≤ 9223372036854775807) (h : ∀ m, l ≠ m ++ [39]) (w : World) :
    Calls Tryd.prog 86 #[.string (K.str l), .string ⟨#[39]⟩] w fun e w' => e = .returned (.tuple #[.string (K.str l), .bool false]) ∧ w = w' := by
  refine (Tryd.strings_CutSuffix (K.str l) ⟨#[39]⟩ w (by rw [K.str_size]; omega)).mono fun e w' ⟨he, hw⟩ => ⟨he.trans ?_, hw.symm⟩
  rw [K.str_data]
  have h := hasS_no hl h
  unfold Lib.trimSuffix
  rw [show (#[39] : Array UInt8).toList = [39] from rfl, h, if_neg (by simp)]
  rfl

theorem lit_any (l : List Int) (hl : K.Bytes l) (hn : l.length ≤ 9223372036854775807) (w : World) :
    Calls Tryd.prog 61 #[.string (K.str l)] w fun e w' => e = .returned (.bool (T.isLit l)) ∧ w = w' := by
  by_cases hb : ∃ r, l = 39 :: r
  · obtain ⟨r, rfl⟩ := hb
    have P1 := hide (fun w => cutP_yes r w)
    have hr : K.Bytes r := hl.tl
    have hrn : r.length < 9223372036854775807 := by simp at hn; omega
    by_cases he : ∃ m, r = m ++ [39]
    · obtain ⟨m, rfl⟩ := he
      have hmn : m.length < 9223372036854775807 := by simp at hrn; omega
      have P2 := hide (fun w => cutS_yes m hmn w)
      have P3 := hide (fun w => isSign_any m (fun z hz => hr z (by simp [hz])) (by omega) w)
      rw [T.isLit_mid m]
      clear hl hn hr hrn hmn
      generalize K.str (39 :: (m ++ [39])) = s at *
      generalize K.str (m ++ [39]) = s2 at *
      generalize K.str m = s3 at *
      generalize T.isSign m = b at *
      go_enter Tryd.func61, Tryd.ntmps61
      go_wp2_with fail
      refine (P1.out _).mono ?_; rintro _ w' ⟨rfl, rfl⟩
      go_wp2_with fail
      refine (P2.out _).mono ?_; rintro _ w' ⟨rfl, rfl⟩
      go_wp2_with fail
      refine (P3.out _).mono ?_; rintro _ w' ⟨rfl, rfl⟩
      go_wp2
      go_ret
      exact ⟨rfl, rfl⟩
    · have P2 := hide (fun w => cutS_no r hr (by omega) (fun m e => he ⟨m, e⟩) w)
      have hv : T.isLit (39 :: r) = false := by
        rcases hq : T.isLit (39 :: r) with _ | _
        · rfl
        · obtain ⟨m, hm⟩ := T.isLit_bare _ hq
          injection hm with _ hm
          exact absurd ⟨m, hm⟩ he
      rw [hv]
      clear hl hn hr hrn he hv
      generalize K.str (39 :: r) = s at *
      generalize K.str r = s2 at *
      go_enter Tryd.func61, Tryd.ntmps61
      go_wp2_with fail
      refine (P1.out _).mono ?_; rintro _ w' ⟨rfl, rfl⟩
      go_wp2_with fail
      refine (P2.out _).mono ?_; rintro _ w' ⟨rfl, rfl⟩
      go_wp2
      go_ret
      exact ⟨rfl, rfl⟩
  · have P1 := hide (fun w => cutP_no l hl (fun r e => hb ⟨r, e⟩) w)
    have hv : T.isLit l = false := by
      rcases hq : T.isLit l with _ | _
      · rfl
      · obtain ⟨m, hm⟩ := T.isLit_bare _ hq
        exact absurd ⟨_, hm⟩ hb
    have P2 : Hid (∃ (s2 : ByteArray) (b : Bool), ∀ w, Calls Tryd.prog 86 #[.string (K.str l), .string ⟨#[39]⟩] w fun e w' => e = .returned (.tuple #[.string s2, .bool b]) ∧ w = w') := by
      refine hide ?_
      by_cases he : ∃ m, l = m ++ [39]
      · obtain ⟨m, rfl⟩ := he
        exact ⟨K.str m, true, fun w => cutS_yes m (by simp at hn; omega) w⟩
      · exact ⟨K.str l, false, fun w => cutS_no l hl hn (fun m e => he ⟨m, e⟩) w⟩
    obtain ⟨s2, b, P2⟩ := P2.out
    replace P2 := hide P2
    rw [hv]
    clear hl hn hb hv
    generalize K.str l = s at *
    go_enter Tryd.func61, Tryd.ntmps61
    go_wp2_with fail
    refine (P1.out _).mono ?_; rintro _ w' ⟨rfl, rfl⟩
    go_wp2_with fail
    refine (P2.out _).mono ?_; rintro _ w' ⟨rfl, rfl⟩
    go_wp2
    go_ret
    exact ⟨rfl, rfl⟩

/-- The bytes of a text, made anew. -/
def scap (w : World) (l : List Int) : Nat := grownCap w l.length 0 5
def sobj (w : World) (l : List Int) : Obj := .cells (bytesRow (K.str l) (scap w l)) 5 ((bytesRow (K.str l) (scap w l)).size, (bytesRow (K.str l) (scap w l)).size + 1)
theorem str_bytes (w : World) (l : List Int) : (convert 9 36 (.string (K.str l))).run Tryd.prog w = .ok (.slice (some ⟨w.heap.size, 0, none⟩) l.length (scap w l)) (w.drew.alloc (sobj w l)) := by
  have := run_bytes_of_string (P := Tryd.prog) w 9 36 5 (K.str l) Tryd.underlying9 Tryd.underlying36 Tryd.underlying5
  rw [K.str_size] at this
  exact this
theorem str_rd (w : World) (l : List Int) (hl : K.Bytes l) : RdB (w.drew.alloc (sobj w l)) (w.drew.alloc (sobj w l)).heap.size (some ⟨w.heap.size, 0, none⟩) l ∧ Below w.heap.size w (w.drew.alloc (sobj w l)) ∧ l.length ≤ scap w l := by
  refine ⟨fun _ => ⟨w.heap.size, 0, rfl, by simp, fun j hj => ?_⟩, (below_drewN (Below.refl _ _) 1).alloc (Nat.le_refl _) _, grownCap_ge w l.length 0 _⟩
  have := World.cell?_alloc_mark w.drew (bytesRow (K.str l) (scap w l)) 5 ((bytesRow (K.str l) (scap w l)).size, (bytesRow (K.str l) (scap w l)).size + 1) (0 + j)
  rw [show w.drew.heap.size = w.heap.size from rfl] at this
  unfold sobj
  rw [this]
  have hj' : j < (K.bytes l).length := by simpa [K.bytes] using hj
  have h2 : 0 + j < (K.str l).data.size := by simpa [K.str] using hj'
  rw [bytesRow_at (K.str l) _ (0 + j) h2]
  have := K.bytes_at hl j hj'
  rw [← this]
  simp [K.str]

theorem name_any (l : List Int) (hl : K.Bytes l) (w : World) :
    Calls Tryd.prog 39 #[.string (K.str l)] w fun e w' => e = .returned (.bool (T.isName l)) ∧ Below w.heap.size w w' := by
  have hsz := K.str_size l
  by_cases h0 : l = []
  · subst h0
    have e0 : (K.str []).toList = [] := by rw [K.str_list]; rfl
    have hv : T.isName [] = false := by decide
    rw [hv]
    clear hsz hl hv
    generalize K.str [] = s at *
    go_enter Tryd.func39, Tryd.ntmps39
    go_wp2
    go_ret
    exact ⟨rfl, Below.refl _ _⟩
  · have e0 := str_no hl (m := []) (bytes_lit _ (by decide)) h0
    rw [show K.bytes [] = [] from rfl] at e0
    have e2 : ¬ (K.str l).toList = [] := by simpa using e0
    have e1 : (!(K.str l).toList.isEmpty) = true := by
      rw [K.str_list]
      cases l with
      | nil => exact absurd rfl h0
      | cons z r => rfl
    have hpos : l.length ≠ 0 := fun e => h0 (List.eq_nil_of_length_eq_zero e)
    by_cases h20 : l.length ≤ 20
    · have hv : T.isName l = (((T.nsize l : Nat) : Int) == (l.length : Int)) := by
        unfold T.isName
        rw [decide_eq_true h20, decide_eq_true hpos, Bool.true_and, Bool.true_and, Bool.eq_iff_iff]
        simp; omega
      have C1 := fun w => str_bytes w l
      have P1 := hide (fun (w : World) => (nsize_any (some ⟨w.heap.size, 0, none⟩) (scap w l) _ l (w.drew.alloc (sobj w l)) (str_rd w l hl).1 (by omega)))
      have B1 := hide (fun (w : World) => (str_rd w l hl).2.1)
      rw [hv]
      clear hv hpos h0 hl
      generalize T.nsize l = n at *
      have hle : (l.length : Int) ≤ 20 := by omega
      clear h20
      generalize l.length = m at *
      have HZ := hide hsz
      have hs2 : ((K.str l).size : Int) = m := by omega
      clear hsz
      generalize K.str l = s at *
      go_enter Tryd.func39, Tryd.ntmps39
      go_wp2_with (simp only [C1])
      refine (P1.out _).mono ?_; rintro _ w' ⟨rfl, rfl⟩
      go_wp2
      go_ret
      exact ⟨rfl, B1.out w⟩
    · have hv : T.isName l = false := by unfold T.isName; rw [decide_eq_false h20]; rfl
      rw [hv]
      have h21 : ¬ ((K.str l).size : Int) ≤ 20 := by omega
      clear hv hpos h0 hl h20 hsz
      generalize K.str l = s at *
      go_enter Tryd.func39, Tryd.ntmps39
      go_wp2
      go_ret
      exact ⟨rfl, Below.refl _ _⟩
end Go.Proofs.YtkfelkpilaipnaaDoor

namespace Go.Proofs.YtkfelkpilaipnaaDoor
set_option maxRecDepth 100000
open Go.RowKit

/-- The library's one number holds some number, whatever it is. -/
def ML (w : World) : Prop := ∃ m, w.cell? ⟨1, 0, none⟩ = some (.int .i64 m)
theorem ML.below {w w' : World} {B : Nat} (h : ML w) (hb : Below B w w') (hB : w.heap.size ≤ B) : ML w' := by
  obtain ⟨m, hm⟩ := h
  exact ⟨m, (hb.cell (p := ⟨_, 0, none⟩) (Nat.lt_of_lt_of_le (block_lt_of_cell hm) hB)).trans hm⟩
theorem ML.up {w w' : World} (h : ML w) (hb : Below w.heap.size w w') : ML w' := h.below hb (Nat.le_refl _)

end Go.Proofs.YtkfelkpilaipnaaDoor

namespace Go.Proofs.YtkfelkpilaipnaaDoor
set_option maxRecDepth 100000
open Go.RowKit

/-- What a piece's function answers. -/
def Ans (x : T.P3) (w : World) (e : Ending) (w' : World) : Prop := e = .returned (p3v x) ∧ Below w.heap.size w w'
theorem Ans.parts {x : T.P3} {w w' : World} {e : Ending} (h : Ans x w e w') : ∃ (k : Int) (n : Nat) (d : Int), x = (k, n, d) ∧ e = .returned (.tuple #[.int .i64 k, .int .i64 n, .int .i64 d]) ∧ Below w.heap.size w w' := by
  obtain ⟨k, n, d⟩ := x
  exact ⟨k, n, d, rfl, h.1, h.2⟩

end Go.Proofs.YtkfelkpilaipnaaDoor

namespace Go.Proofs.YtkfelkpilaipnaaDoor
set_option maxRecDepth 100000
open Go.RowKit

theorem slice_to (w : World) (A : Option Addr) (c n j : Nat) (h2 : j ≤ c) : (Instr.sliceAt 36 (.slice A n c) none (some (.int .i64 j)) none).run Tryd.prog w = .ok (.slice A j c) w := by
  rw [run_sliceAt_slice _ _ _ _ _ _ (by kernel_rfl), run_slice_h _ _ _ _ _ (by kernel_rfl) .i64 (j : Int) (by omega) (by omega)]
  have hs : (sizeOf (Tryd.prog.elem 36)).run Tryd.prog w = .ok 1 w := by kernel_rfl
  rw [hs]
  have e : ∀ A : Option Addr, A.map (fun x => x.add 0) = A := fun A => by
    cases A with
    | none => rfl
    | some x => simp [Addr.add]
  simp [Result.andThen, sliced, e]
end Go.Proofs.YtkfelkpilaipnaaDoor

namespace Go.Proofs.YtkfelkpilaipnaaDoor.Fl
open Ieee

/-- The float of a whole number. -/
def fl (n : Int) : Nat := floatOfInt .f64 n

end Go.Proofs.YtkfelkpilaipnaaDoor.Fl

namespace Go.Proofs.YtkfelkpilaipnaaDoor
set_option maxRecDepth 100000
open Go.RowKit

/-- A place: its line and its column; no place is 0, 0. -/
def pl (l c : Int) : Value := .complex .f64 (Fl.fl l) (Fl.fl c)
/-- May a number be a line, or a column? -/
def okN (n : Int) : Prop := 1 ≤ n ∧ n ≤ 1073741824

theorem okN.in {n : Int} (h : okN n) : 0 ≤ n ∧ n ≤ 1073741824 := by unfold okN at h; omega

/-- The document's place of a line and a column. -/
theorem rof_yes (l c : Int) (w : World) (hl : okN l) (hc : okN c) :
    Calls Tryd.prog 74 #[.int .i64 l, .int .i64 c] w fun e w' => e = .returned (.complex .f64 (Fl.fl l) (Fl.fl c)) ∧ w = w' := by
  have C2 : ∀ n w, (convert 3 144 (.int .i64 n)).run Tryd.prog w = .ok (.float .f64 (Fl.fl n)) w := fun n w => run_convert_int_float w _ _ .i64 .f64 _ (by rw [Tryd.underlying3]; rfl) Tryd.underlying144
  obtain ⟨h1, h2⟩ := hl
  obtain ⟨h3, h4⟩ := hc
  go_enter Tryd.func74, Tryd.ntmps74
  go_wp2_with (simp only [C2])
  go_ret
  exact ⟨rfl, rfl⟩
end Go.Proofs.YtkfelkpilaipnaaDoor

namespace Go.Proofs.YtkfelkpilaipnaaDoor
set_option maxRecDepth 100000
open Go.RowKit

namespace Pl
def stp (p : Int × Int) (z : Int) : Int × Int := if z = 10 then (p.1 + 1, 1) else (p.1, p.2 + 1)
/-- The place behind a text. -/
def pos (l : List Int) : Int × Int := l.foldl stp (1, 1)
theorem pos_snoc (l : List Int) (z : Int) : pos (l ++ [z]) = stp (pos l) z := by unfold pos; rw [List.foldl_append]; rfl
theorem pos_next (l : List Int) (k : Nat) (h : k < l.length) : pos (l.take (k + 1)) = stp (pos (l.take k)) (l.getD k 0) := by rw [L.take_snoc l k h, pos_snoc]
theorem pos_bd (l : List Int) (k : Nat) (h : k ≤ l.length) : 1 ≤ (pos (l.take k)).1 ∧ (pos (l.take k)).1 ≤ 1 + k ∧ 1 ≤ (pos (l.take k)).2 ∧ (pos (l.take k)).2 ≤ 1 + k := by
  induction k with
  | zero => simp [pos]
  | succ k ih =>
    have := ih (by omega)
    rw [pos_next l k (by omega)]
    unfold stp
    split <;> simp only <;> omega
end Pl

set_option maxHeartbeats 1000000 in
theorem rat_in (A : Option Addr) (c B : Nat) (l : List Int) (i : Nat) (w : World) (hr : RdB w B A l) (hn : l.length ≤ 2000) (hi : i ≤ l.length) :
    Calls Tryd.prog 49 #[.slice A l.length c, .int .i64 i] w fun e w' => e = .returned (.complex .f64 (Fl.fl (Pl.pos (l.take i)).1) (Fl.fl (Pl.pos (l.take i)).2)) ∧ w = w' := by
  have hi' : ¬ (l.length : Int) < i := by omega
  go_enter Tryd.func49, Tryd.ntmps49
  go_wp2
  go_loop [7, 5, 6] (fun vi vl vc => ∃ (k : Nat), k ≤ i ∧ vi = .int .i64 k ∧ vl = .int .i64 (Pl.pos (l.take k)).1 ∧ vc = .int .i64 (Pl.pos (l.take k)).2) (fun vi _ _ => i - (intOf vi).toNat)
  case atStart => exact ⟨0, by omega, rfl, rfl, rfl⟩
  case round =>
    obtain ⟨k, hk, rfl, rfl, rfl⟩ := hrel
    have hb := Pl.pos_bd l k (by omega)
    by_cases hlt : k < i
    · obtain ⟨g, o, rfl, _, hcl⟩ := hr (by omega)
      have hcell := hcl k (by omega)
      have hnx := hide (Pl.pos_next l k (by omega))
      have hkl : k < l.length := by omega
      generalize l.getD k 0 = z at *
      generalize Pl.pos (l.take k) = p at *
      obtain ⟨x, y⟩ := p
      simp only at hb
      obtain ⟨b1, b2, b3, b4⟩ := hb
      clear hcl
      by_cases h10 : z = 10
      · subst h10
        go_wp2
        go_round
        case rel => exact ⟨k + 1, by omega, by go_num, by rw [hnx.out]; rfl, by rw [hnx.out]; rfl⟩
        case measure => simp [intOf]; omega
      · have h11 : (z == 10) = false := by simpa using h10
        have HN := hide h10
        clear h10
        go_wp2
        go_round
        case rel => exact ⟨k + 1, by omega, by go_num, by rw [hnx.out]; unfold Pl.stp; rw [if_neg HN.out], by rw [hnx.out]; unfold Pl.stp; rw [if_neg HN.out]⟩
        case measure => simp [intOf]; omega
    · obtain rfl : k = i := by omega
      clear hr
      have HS := hide (fun w => rof_yes (Pl.pos (l.take k)).1 (Pl.pos (l.take k)).2 w (by unfold okN; omega) (by unfold okN; omega))
      clear hb
      go_wp2_with fail
      refine (HS.out _).mono ?_; rintro _ w' ⟨rfl, rfl⟩
      go_wp2
      go_ret
      exact ⟨rfl, rfl⟩
end Go.Proofs.YtkfelkpilaipnaaDoor

namespace Go.Proofs.YtkfelkpilaipnaaDoor
set_option maxRecDepth 100000
open Go.RowKit

namespace Pl
end Pl

theorem infoT : (Tryd.prog.info? 105).map (fun i => (i.zero, i.size, i.bytes)) = some (some (.agg #[.int .i64 0, .string ⟨#[]⟩, .complex .f64 0 0]), 3, 40) := by kernel_rfl

/-- A token's text, by its kind. -/
def ttext (k : Int) (l : List Int) : List Int := if k = 1 ∨ k = 2 then l else []

/-- A token without anything. -/
def tok0 : Obj := .cells #[.int .i64 0, .string ⟨#[]⟩, .complex .f64 0 0] 105

end Go.Proofs.YtkfelkpilaipnaaDoor

namespace Go.Proofs.YtkfelkpilaipnaaDoor
set_option maxRecDepth 100000
open Go.RowKit

/-- A token: its kind, its text, the byte where it begins. -/
structure Tok where
  k : Int
  t : List Int
  o : Nat
/-- What is told of a text: its tokens, or the byte where something is wrong, and what. -/
inductive Out where
  | ok : List Tok → Out
  | bad : Nat → Int → Out
/-- One token more, if it isn't skipped. -/
def more (acc : List Tok) (k : Nat) (x : T.P3) (l : List Int) : List Tok := if x.1 = 0 then acc else acc ++ [⟨x.1, ttext x.1 (l.take x.2.1), k⟩]
def marksOn (m : Nat) (x : T.P3) : Nat := if x.1 = 9 then m + 1 else m
def scan : Nat → List Int → Nat → Nat → List Tok → Out
  | 0, _, _, _, acc => .ok acc
  | f + 1, l, k, m, acc => if l.length = 0 ∨ m = 2 then .ok acc else if (T.piece l).2.2 ≠ 0 then .bad k (T.piece l).2.2 else scan f (l.drop (T.piece l).2.1) (k + (T.piece l).2.1) (marksOn m (T.piece l)) (more acc k (T.piece l) l)
theorem scan_end (f : Nat) (l : List Int) (k m : Nat) (acc : List Tok) (h : l.length = 0 ∨ m = 2) : scan f l k m acc = .ok acc := by
  cases f with
  | zero => rfl
  | succ f => unfold scan; rw [if_pos h]
theorem scan_bad (f : Nat) (l : List Int) (k m : Nat) (acc : List Tok) (h : ¬ (l.length = 0 ∨ m = 2)) (hb : (T.piece l).2.2 ≠ 0) : scan (f + 1) l k m acc = .bad k (T.piece l).2.2 := by
  rw [scan, if_neg h, if_pos hb]
theorem scan_on (f : Nat) (l : List Int) (k m : Nat) (acc : List Tok) (h : ¬ (l.length = 0 ∨ m = 2)) (hb : (T.piece l).2.2 = 0) : scan (f + 1) l k m acc = scan f (l.drop (T.piece l).2.1) (k + (T.piece l).2.1) (marksOn m (T.piece l)) (more acc k (T.piece l) l) := by
  rw [scan, if_neg h, if_neg (by simpa using hb)]
/-- The tokens of a text. -/
def toks (l : List Int) : Out := scan (l.length + 1) l 0 0 []

/-- A token's cells; the text gives the place. -/
def tcells (L : List Int) (x : Tok) : List Value := [.int .i64 x.k, .string (K.str x.t), .complex .f64 (Fl.fl (Pl.pos (L.take x.o)).1) (Fl.fl (Pl.pos (L.take x.o)).2)]
theorem tcells_at (L : List Int) (xs : List Tok) (i j : Nat) (hi : i < xs.length) (hj : j < 3) : (xs.flatMap (tcells L))[i * 3 + j]? = (tcells L xs[i])[j]? := by
  induction xs generalizing i with
  | nil => simp at hi
  | cons x r ih =>
    rw [List.flatMap_cons]
    have hl : (tcells L x).length = 3 := rfl
    cases i with
    | zero => rw [List.getElem?_append_left (by omega)]; simp
    | succ i =>
      rw [List.getElem?_append_right (by omega), hl, show (i + 1) * 3 + j - 3 = i * 3 + j by omega]
      simpa using ih i (by simpa using hi)

/-- A slice of the call's own with these tokens, nil or not. -/
def OwnT (L : List Int) (w : World) (base : Nat) (v : Value) (xs : List Tok) : Prop := w.ownsRow base 105 3 v xs.length (xs.flatMap (tcells L))
theorem OwnT.nil (L : List Int) (w : World) (base : Nat) : OwnT L w base (.slice none 0 0) [] := World.ownsRow_nil w base _ _
theorem OwnT.alloc {L : List Int} {w : World} {base : Nat} {v : Value} {xs : List Tok} (h : OwnT L w base v xs) (o : Obj) : OwnT L (w.alloc o) base v xs := World.ownsRow.alloc h o
theorem OwnT.drewN {L : List Int} {w : World} {base : Nat} {v : Value} {xs : List Tok} (h : OwnT L w base v xs) (n : Nat) : OwnT L (w.drewN n) base v xs := h
theorem OwnT.below {L : List Int} {w w' : World} {base B : Nat} {v : Value} {xs : List Tok} (h : OwnT L w base v xs) (hb : Below B w w') (hB : w.heap.size ≤ B) : OwnT L w' base v xs := by
  refine ⟨h.1, ?_⟩
  rcases h.2 with h0 | ⟨g, cap, cur, e, hb1, hg, hr⟩
  · exact .inl h0
  · exact .inr ⟨g, cap, cur, e, hb1, (hb.block g (Nat.lt_of_lt_of_le (Array.getElem?_eq_some_iff.1 hg).1 hB)).trans hg, hr⟩
theorem OwnT.form {L : List Int} {w : World} {base : Nat} {v : Value} {xs : List Tok} (h : OwnT L w base v xs) : ∃ A c, v = .slice A xs.length c ∧ xs.length ≤ c ∧ c ≤ maxLen := by
  rcases h.2 with ⟨rfl, h0⟩ | ⟨g, cap, cur, rfl, hb, hg, hn, hm, hs, ht⟩
  · exact ⟨none, 0, by rw [h0], by omega, by unfold maxLen; omega⟩
  · exact ⟨_, cap, rfl, hn, hm⟩
/-- A slice of the call's own that is not empty: where it lies; its cells are read one by one. -/
theorem OwnT.addr {L : List Int} {w : World} {base : Nat} {v : Value} {xs : List Tok} (h : OwnT L w base v xs) (h0 : xs.length ≠ 0) : ∃ g c, v = .slice (some ⟨g, 0, none⟩) xs.length c ∧ xs.length ≤ c ∧ c ≤ maxLen ∧ base ≤ g ∧ g < w.heap.size ∧
    ∀ i j u, i < xs.length → j < 3 → (xs[i]?.map (tcells L)).bind (·[j]?) = some u → w.cell? ⟨g, i * 3 + j, none⟩ = some u := by
  rcases h.2 with ⟨_, h1⟩ | ⟨g, cap, cur, rfl, hb, hg, hn, hm, hs, ht⟩
  · exact absurd h1 h0
  · refine ⟨g, cap, rfl, hn, hm, hb, (Array.getElem?_eq_some_iff.1 hg).1, fun i j u hi hj hu => ?_⟩
    have hx : xs[i]? = some xs[i] := List.getElem?_eq_getElem hi
    rw [hx] at hu
    have hc := World.ownsRow.cells h (g := g) rfl (i * 3 + j) u (by rw [tcells_at L xs i j hi hj]; exact hu)
    rw [Go.WideShapes.add_plain, Nat.zero_add] at hc
    exact hc
theorem below_grownT {L : List Int} {B : Nat} {a w w' : World} {v : Value} {xs : List Tok} (h : Below B a w) (ho : OwnT L w B v xs) (hg : w.grownBy w' v.ownBlock) (hs : B ≤ w.heap.size) : Below B a w' :=
  h.grown hg hs (fun k e => (World.ownsRow.lt ho k e).1)

/-- append of one token, which lies in a block of its own, to a slice of the call's own. -/
theorem apT_arm {w : World} {ops : Array Oper} {rest : List Oper} {o : Oper} {a : Act} {Q : Exit → Act → World → Prop}
    (hgd : o.guard = none) (s x : Operand) (t : TypeId) (ho : o.op = .call { callee := .builtin .append, args := #[s, x], argTypes := #[t, t] }) (ht : Tryd.prog.underlying t = some (.slice 105))
    (L : List Int) (base : Nat) (v : Value) (xs : List Tok) (hs : a.eval s = v) (hown : OwnT L w base v xs) (g c : Nat) (y : Tok) (hx : a.eval x = .slice (some ⟨g, 0, none⟩) 1 c) (hz : ∀ j u, (tcells L y)[j]? = some u → w.cell? ⟨g, j, none⟩ = some u)
    (hlen : xs.length ≤ 1000000) (hbase : base ≤ w.heap.size)
    (hK : ∀ v' w', OwnT L w' base v' (xs ++ [y]) → w.grownBy w' v.ownBlock → wpList Tryd.prog ops Q rest (a.put o.dst v') w') :
    wpList Tryd.prog ops Q (o :: rest) a w := by
  obtain ⟨i, hi, hz0, hz1, hz2⟩ := info_parts infoT
  refine wpList_append_own w hgd s x t ho base 105 i _ 3 40 ht hi hz0 hz1 hz2 rfl (by decide) v xs.length (xs.flatMap (tcells L)) hs hown ⟨g, 0, none⟩ 1 c (tcells L y) hx rfl ?_ ?_ (by unfold maxLen; omega) (by omega) hbase fun v' w' h1 h2 _ => hK v' w' ?_ h2
  · intro j u hj
    rw [Go.WideShapes.add_plain, Nat.zero_add]
    exact hz j u hj
  · intro u hu; simp [tcells] at hu; rcases hu with rfl | rfl | rfl <;> rfl
  · unfold OwnT
    rw [List.length_append, List.flatMap_append, List.flatMap_singleton]; exact h1
end Go.Proofs.YtkfelkpilaipnaaDoor

namespace Go.Proofs.YtkfelkpilaipnaaDoor
set_option maxRecDepth 100000

namespace Y
/-- What is read, and what is left; or the token that can't stand there (none: there is no more). -/
inductive Res (α : Type) where
  | ok : α → List Tok → Res α
  | bad : Option Tok → Res α
def Res.bind {α β : Type} (r : Res α) (f : α → List Tok → Res β) : Res β := match r with | .ok a l => f a l | .bad p => .bad p
theorem bind_ok {α β : Type} (a : α) (l : List Tok) (f : α → List Tok → Res β) : (Res.ok a l).bind f = f a l := rfl
structure Dcl where
  k : Int
  ns : List Tok
structure Prd where
  l : Tok
  r : List Tok
  p : Option Tok

def is (ks : List Int) : List Tok → Bool
  | [] => false
  | t :: _ => ks.contains t.k
def take (ks : List Int) : List Tok → Res Tok
  | [] => .bad none
  | t :: r => if ks.contains t.k then .ok t r else .bad (some t)
def isRef (t : Tok) : Bool := [(1 : Int), 2].contains t.k
def decl (ts : List Tok) : Res Dcl := (take [3, 4, 5, 6, 7] ts).bind fun t r => if t.k = 7 then (take [1] r).bind fun n r => .ok ⟨7, [n]⟩ r else (take [1, 2] r).bind fun n r => .ok ⟨t.k, n :: r.takeWhile isRef⟩ (r.dropWhile isRef)
def decls : Nat → List Dcl → List Tok → Res (List Dcl)
  | 0, acc, ts => .ok acc ts
  | f + 1, acc, ts => if is [9] ts then .ok acc ts else (decl ts).bind fun d r => decls f (acc ++ [d]) r
def rule2 (left : Tok) (rs r : List Tok) : Res Prd := if is [8] r then (take [8] r).bind fun _ r => (take [1, 2] r).bind fun p r => .ok ⟨left, rs, some p⟩ r else .ok ⟨left, rs, none⟩ r
def rule (left : Tok) (ts : List Tok) : Res Prd := rule2 left (ts.takeWhile isRef) (ts.dropWhile isRef)
def alts : Nat → Tok → List Prd → List Tok → Res (List Prd)
  | 0, _, acc, ts => .ok acc ts
  | f + 1, left, acc, ts => (rule left ts).bind fun p r => (take [11, 12] r).bind fun t r => if t.k = 11 then alts f left (acc ++ [p]) r else .ok (acc ++ [p]) r
def group (acc : List Prd) (ts : List Tok) : Res (List Prd) := (take [1] ts).bind fun left r => (take [10] r).bind fun _ r => alts (r.length + 1) left acc r
def groups : Nat → List Prd → List Tok → Res (List Prd)
  | 0, acc, ts => .ok acc ts
  | f + 1, acc, ts => if ts.length ≠ 0 ∧ is [9] ts = false then (group acc ts).bind fun ps r => groups f ps r else .ok acc ts
def tail2 (ts : List Tok) : Res Unit := if ts.length = 0 then .ok () ts else (take [] ts).bind fun _ r => .ok () r
def tail (ts : List Tok) : Res Unit := if is [9] ts then (take [9] ts).bind fun _ r => tail2 r else tail2 ts
def source (ts : List Tok) : Res (List Dcl × List Prd) := (decls (ts.length + 1) [] ts).bind fun ds r => (take [9] r).bind fun _ r => (group [] r).bind fun ps r => (groups (r.length + 1) ps r).bind fun ps r => (tail r).bind fun _ r => .ok (ds, ps) r

theorem take_cons (ks : List Int) (x : Tok) (xs : List Tok) : take ks (x :: xs) = if ks.contains x.k then .ok x xs else .bad (some x) := rfl
/-- What is left is a part of what there was. -/
theorem take_ok {ks : List Int} {ts : List Tok} {t : Tok} {r : List Tok} (h : take ks ts = .ok t r) : ts = t :: r ∧ ks.contains t.k = true := by
  cases ts with
  | nil => cases h
  | cons x xs =>
    rw [take_cons] at h
    by_cases hx : ks.contains x.k = true
    · rw [if_pos hx] at h; injection h with h1 h2; subst h1 h2; exact ⟨rfl, hx⟩
    · rw [if_neg hx] at h; cases h
theorem is_true {ks : List Int} {ts : List Tok} (h : is ks ts = true) : ∃ t r, ts = t :: r ∧ take ks ts = .ok t r ∧ ks.contains t.k = true := by
  cases ts with
  | nil => cases h
  | cons x xs => exact ⟨x, xs, rfl, by rw [take_cons, if_pos (show ks.contains x.k = true from h)], h⟩
theorem refs_end {ts : List Tok} (h : is [1, 2] ts = false) : ts.takeWhile isRef = [] ∧ ts.dropWhile isRef = ts := by
  cases ts with
  | nil => exact ⟨rfl, rfl⟩
  | cons t r =>
    have h' : isRef t = false := h
    rw [List.takeWhile_cons, List.dropWhile_cons, h']
    exact ⟨rfl, rfl⟩
theorem bind_eq_ok {α β : Type} {x : Res α} {f : α → List Tok → Res β} {b : β} {r : List Tok} (h : x.bind f = .ok b r) : ∃ a m, x = .ok a m ∧ f a m = .ok b r := by
  cases x with
  | ok a m => exact ⟨a, m, rfl, h⟩
  | bad p => cases h

/-- The references of what is read, in order. -/
def Dcl.refs (d : Dcl) : List Tok := d.ns
def Prd.refs (p : Prd) : List Tok := p.r ++ p.p.toList
end Y
end Go.Proofs.YtkfelkpilaipnaaDoor

namespace Go.Proofs.YtkfelkpilaipnaaDoor
open Go.RowKit Go.ChangeShapes Go.WideShapes Go.ChangeAt

/-- A slice value's address A, with the elements zs, all of it below block B. -/
def RdI (w : World) (B : Nat) (A : Option Addr) (zs : List Int) : Prop :=
  zs.length ≠ 0 → ∃ g o, A = some ⟨g, o, none⟩ ∧ g < B ∧ ∀ j, j < zs.length → w.cell? ⟨g, o + j, none⟩ = some (.int .i64 (zs.getD j 0))

theorem RdI.nil (w : World) (B : Nat) (A : Option Addr) : RdI w B A [] := fun h => absurd rfl h
theorem RdI.keep {w w' : World} {B : Nat} {A : Option Addr} {zs : List Int} (h : RdI w B A zs) (hk : ∀ g o, g < B → w'.cell? ⟨g, o, none⟩ = w.cell? ⟨g, o, none⟩) : RdI w' B A zs := fun hn => by
  obtain ⟨g, o, e, hg, hc⟩ := h hn
  exact ⟨g, o, e, hg, fun j hj => (hk _ _ hg).trans (hc j hj)⟩
theorem RdI.more {w : World} {B B' : Nat} {A : Option Addr} {zs : List Int} (h : RdI w B A zs) (hB : B ≤ B') : RdI w B' A zs := fun hn => by
  obtain ⟨g, o, e, hg, hc⟩ := h hn
  exact ⟨g, o, e, by omega, hc⟩
theorem RdI.below {w w' : World} {B B' : Nat} {A : Option Addr} {zs : List Int} (h : RdI w B A zs) (hb : Below B' w w') (hB : B ≤ B') : RdI w' B A zs :=
  h.keep fun g o hg => hb.cell (p := ⟨g, o, none⟩) (Nat.lt_of_lt_of_le hg hB)
theorem RdI.up {w w' : World} {A : Option Addr} {zs : List Int} (h : RdI w w.heap.size A zs) (hb : Below w.heap.size w w') : RdI w' w'.heap.size A zs := (h.below hb (Nat.le_refl _)).more hb.size
theorem RdI.drewN {w : World} {B : Nat} {A : Option Addr} {zs : List Int} (h : RdI w B A zs) (n : Nat) : RdI (w.drewN n) B A zs := h
theorem RdI.drew {w : World} {B : Nat} {A : Option Addr} {zs : List Int} (h : RdI w B A zs) : RdI w.drew B A zs := h
theorem RdI.alloc {w : World} {B : Nat} {A : Option Addr} {zs : List Int} (h : RdI w B A zs) (hB : B ≤ w.heap.size) (o : Obj) : RdI (w.alloc o) B A zs :=
  h.keep fun g i hg => World.cell?_alloc_lt w o ⟨g, i, none⟩ (Nat.lt_of_lt_of_le hg hB)
theorem RdI.grown {w w' : World} {B : Nat} {A : Option Addr} {zs : List Int} {g : Nat} (h : RdI w B A zs) (hg : w.grownBy w' (some g)) (hB : B ≤ g) (hs : B ≤ w.heap.size) : RdI w' B A zs :=
  h.keep fun p o hp => World.cell?_of_block (hg.block p (by omega) (fun e => by injection e with e; omega))
theorem RdI.take {w : World} {B : Nat} {A : Option Addr} {zs : List Int} (h : RdI w B A zs) (k : Nat) : RdI w B A (zs.take k) := fun hn => by
  have hl : (zs.take k).length ≤ zs.length := by rw [List.length_take]; omega
  obtain ⟨g, o, e, hg, hc⟩ := h (by omega)
  refine ⟨g, o, e, hg, fun j hj => ?_⟩
  rw [hc j (by omega), L.gd_lt hj, L.gd_lt (by omega : j < zs.length), List.getElem_take]
/-- The cells of a slice that reads, by its own address. -/
theorem RdI.cell {w : World} {B : Nat} {zs : List Int} {g o : Nat} (h : RdI w B (some ⟨g, o, none⟩) zs) (j : Nat) (hj : j < zs.length) : w.cell? ⟨g, o + j, none⟩ = some (.int .i64 (zs.getD j 0)) := by
  obtain ⟨g', o', e, _, hc⟩ := h (by omega)
  injection e with e; injection e with e1 e2
  subst e1 e2
  exact hc j hj

/-- Block g is just the numbers ls, of the call's own. -/
def UBI (w : World) (g : Nat) (ls : List Int) : Prop := w.heap[g]? = some (.cells (ls.map (Value.int .i64)).toArray 3 (0, 0))

theorem UBI.lt {w : World} {g : Nat} {ls : List Int} (h : UBI w g ls) : g < w.heap.size := by
  rcases Nat.lt_or_ge g w.heap.size with hlt | hge
  · exact hlt
  · unfold UBI at h; rw [Array.getElem?_eq_none hge] at h; cases h
theorem UBI.cell {w : World} {g : Nat} {ls : List Int} (h : UBI w g ls) (i : Nat) (hi : i < ls.length) : w.cell? ⟨g, i, none⟩ = some (.int .i64 (ls.getD i 0)) := by
  rw [cell_of_row w g i _ _ _ h]; simp [hi, List.getD]
theorem UBI.frozen {w : World} {g : Nat} {ls : List Int} (h : UBI w g ls) (i : Nat) : w.frozen? ⟨g, i, none⟩ = false := frozen_of_row w g i _ _ h
theorem UBI.new (w : World) (ls : List Int) : UBI (w.alloc (.cells (ls.map (Value.int .i64)).toArray 3)) w.heap.size ls := heap_alloc_new w _
theorem UBI.drewN {w : World} {g : Nat} {ls : List Int} (h : UBI w g ls) (n : Nat) : UBI (w.drewN n) g ls := h
theorem UBI.drew {w : World} {g : Nat} {ls : List Int} (h : UBI w g ls) : UBI w.drew g ls := h
theorem UBI.alloc {w : World} {g : Nat} {ls : List Int} (h : UBI w g ls) (o : Obj) : UBI (w.alloc o) g ls := (Below.heap_alloc w o g h.lt).trans h
theorem UBI.far {w : World} {g : Nat} {ls : List Int} (h : UBI w g ls) {p : Addr} (hp : g ≠ p.block) (u : Value) : UBI (w.setCell p u) g ls := (Below.heap_setCell w p u g hp).trans h
theorem UBI.below {w w' : World} {g B : Nat} {ls : List Int} (h : UBI w g ls) (hb : Below B w w') (hg : g < B) : UBI w' g ls := (hb.block g hg).trans h
theorem UBI.grown {w w' : World} {g : Nat} {ls : List Int} {row : Option Nat} (h : UBI w g ls) (hb : w.grownBy w' row) (hg : some g ≠ row) : UBI w' g ls := (hb.block g h.lt hg).trans h
/-- A part of a block of the call's own reads as its numbers. -/
theorem UBI.rd {w : World} {g : Nat} {ls : List Int} (h : UBI w g ls) (o n : Nat) (hn : o + n ≤ ls.length) {B : Nat} (hB : g < B) : RdI w B (some ⟨g, o, none⟩) ((ls.drop o).take n) := fun _ => by
  refine ⟨g, o, rfl, hB, fun j hj => ?_⟩
  have hj' : j < n := by rw [List.length_take] at hj; omega
  rw [h.cell (o + j) (by omega), L.gd_lt hj, L.gd_lt (by omega : o + j < ls.length), List.getElem_take, List.getElem_drop]
theorem infoI : (Tryd.prog.info? 3).map (fun i => (i.zero, i.size, i.bytes)) = some (some (.int .i64 0), 1, 8) := by kernel_rfl
/-- A slice of the call's own with these numbers, nil or not. -/
def OwnI (w : World) (base : Nat) (v : Value) (xs : List Int) : Prop := w.ownsRow base 3 1 v xs.length (xs.map (Value.int .i64))

theorem OwnI.nil (w : World) (base : Nat) : OwnI w base (.slice none 0 0) [] := World.ownsRow_nil w base _ _
theorem OwnI.alloc {w : World} {base : Nat} {v : Value} {xs : List Int} (h : OwnI w base v xs) (o : Obj) : OwnI (w.alloc o) base v xs := World.ownsRow.alloc h o
theorem OwnI.drewN {w : World} {base : Nat} {v : Value} {xs : List Int} (h : OwnI w base v xs) (n : Nat) : OwnI (w.drewN n) base v xs := h
theorem OwnI.below {w w' : World} {base B : Nat} {v : Value} {xs : List Int} (h : OwnI w base v xs) (hb : Below B w w') (hB : w.heap.size ≤ B) : OwnI w' base v xs := by
  refine ⟨h.1, ?_⟩
  rcases h.2 with h0 | ⟨g, cap, cur, e, hb1, hg, hr⟩
  · exact .inl h0
  · exact .inr ⟨g, cap, cur, e, hb1, (hb.block g (Nat.lt_of_lt_of_le (Array.getElem?_eq_some_iff.1 hg).1 hB)).trans hg, hr⟩
theorem OwnI.form {w : World} {base : Nat} {v : Value} {xs : List Int} (h : OwnI w base v xs) : ∃ A c, v = .slice A xs.length c ∧ xs.length ≤ c ∧ c ≤ maxLen ∧ RdI w w.heap.size A xs := by
  rcases h.2 with ⟨rfl, h0⟩ | ⟨g, cap, cur, rfl, hb, hg, hn, hm, hs, ht⟩
  · exact ⟨none, 0, by rw [h0], by omega, by unfold maxLen; omega, fun hc => absurd h0 hc⟩
  · refine ⟨some ⟨g, 0, none⟩, cap, rfl, hn, hm, fun _ => ⟨g, 0, rfl, ?_, fun j hj => ?_⟩⟩
    · exact (Array.getElem?_eq_some_iff.1 hg).1
    · have hc := World.ownsRow.cells h (g := g) rfl j (.int .i64 (xs.getD j 0)) (by simp [hj, List.getD])
      have e : ((⟨g, 0, none⟩ : Addr).add j) = ⟨g, 0 + j, none⟩ := by unfold Addr.add; by_cases h0 : j = 0 <;> simp [h0]
      rw [e] at hc; exact hc
theorem OwnI.mono {w : World} {base base' : Nat} {v : Value} {xs : List Int} (h : OwnI w base v xs) (hb : base' ≤ base) : OwnI w base' v xs := by
  refine ⟨h.1, ?_⟩
  rcases h.2 with h0 | ⟨g, cap, cur, e, hb1, hr⟩
  · exact .inl h0
  · exact .inr ⟨g, cap, cur, e, by omega, hr⟩

/-- A slice of the call's own that is not empty: where it lies; its cells are read and written one by one. -/
theorem OwnI.addr {w : World} {base : Nat} {v : Value} {xs : List Int} (h : OwnI w base v xs) (h0 : xs.length ≠ 0) : ∃ g c, v = .slice (some ⟨g, 0, none⟩) xs.length c ∧ xs.length ≤ c ∧ c ≤ maxLen ∧ base ≤ g := by
  rcases h.2 with ⟨_, h1⟩ | ⟨g, cap, cur, rfl, hb, hg, hn, hm, hs, ht⟩
  · exact absurd h1 h0
  · exact ⟨g, cap, rfl, hn, hm, hb⟩
theorem OwnI.cellAt {w : World} {base g n c : Nat} {xs : List Int} (h : OwnI w base (.slice (some ⟨g, 0, none⟩) n c) xs) (hn : n = xs.length) (j : Nat) (hj : j < xs.length) : w.cell? ⟨g, j, none⟩ = some (.int .i64 (xs.getD j 0)) := by
  subst hn
  rw [World.ownsRow.cellAt h j (by omega)]
  simp [hj, List.getD]
theorem OwnI.stored {w : World} {base g n c : Nat} {xs : List Int} (h : OwnI w base (.slice (some ⟨g, 0, none⟩) n c) xs) (hn : n = xs.length) (j : Nat) (z : Int) : OwnI (w.setCell ⟨g, j, none⟩ (.int .i64 z)) base (.slice (some ⟨g, 0, none⟩) n c) (xs.set j z) := by
  subst hn
  have := (World.ownsRow.stored h j (.int .i64 z)).1
  unfold OwnI
  rw [List.length_set, List.map_set]; exact this

/-- append of one number, which lies in a block of its own, to a slice of the call's own. -/
theorem apI_arm {w : World} {ops : Array Oper} {rest : List Oper} {o : Oper} {a : Act} {Q : Exit → Act → World → Prop}
    (hgd : o.guard = none) (s x : Operand) (t : TypeId) (ho : o.op = .call { callee := .builtin .append, args := #[s, x], argTypes := #[t, t] }) (ht : Tryd.prog.underlying t = some (.slice 3))
    (base : Nat) (v : Value) (xs : List Int) (hs : a.eval s = v) (hown : OwnI w base v xs) (g c : Nat) (z : Int) (hx : a.eval x = .slice (some ⟨g, 0, none⟩) 1 c) (hz : w.cell? ⟨g, 0, none⟩ = some (.int .i64 z))
    (hlen : xs.length ≤ 1000000000000) (hbase : base ≤ w.heap.size)
    (hK : ∀ v' w', OwnI w' base v' (xs ++ [z]) → w.grownBy w' v.ownBlock → wpList Tryd.prog ops Q rest (a.put o.dst v') w') :
    wpList Tryd.prog ops Q (o :: rest) a w := by
  obtain ⟨i, hi, hz0, hz1, hz2⟩ := info_parts infoI
  refine wpList_append_own w hgd s x t ho base 3 i (.int .i64 0) 1 8 ht hi hz0 hz1 hz2 rfl (by decide) v xs.length (xs.map (Value.int .i64)) hs hown ⟨g, 0, none⟩ 1 c [.int .i64 z] hx rfl ?_ ?_ (by unfold maxLen; omega) (by omega) hbase fun v' w' h1 h2 _ => hK v' w' ?_ h2
  · intro j u hj
    match j, hj with
    | 0, hj => simp at hj; subst hj; simpa [Addr.add] using hz
    | j + 1, hj => simp at hj
  · intro u hu; simp at hu; subst hu; rfl
  · unfold OwnI
    rw [List.length_append, List.map_append]; exact h1

/-- A slice of such numbers that came in: nil, or a row of so many cells. -/
def IsRowI (w : World) (a : Option Addr) (len cap : Nat) (zs : List Int) : Prop :=
  (a = none ∧ len = 0 ∧ cap = 0 ∧ zs = []) ∨
  ∃ x, a = some x ∧ len ≤ cap ∧ cap ≤ maxLen ∧ zs.length = cap ∧ (∀ i, i < zs.length → w.cell? (x.add i) = some (.int .i64 (zs.getD i 0))) ∧ ∀ n ∈ zs, (Lit.int .i64 n).wf = true

theorem IsRowI.rd {w : World} {a : Option Addr} {len cap : Nat} {zs : List Int} (h : IsRowI w a len cap zs) : ∃ xs, xs.length = len ∧ len ≤ cap ∧ cap ≤ 9223372036854775807 ∧ (∀ n ∈ xs, (Lit.int .i64 n).wf = true) ∧ RdI w w.heap.size a xs := by
  rcases h with ⟨rfl, rfl, rfl, rfl⟩ | ⟨x, rfl, hl, hm, hz, hc, hw⟩
  · exact ⟨[], rfl, Nat.le_refl _, by omega, by simp, RdI.nil _ _ _⟩
  · refine ⟨zs.take len, by rw [List.length_take]; omega, hl, by unfold maxLen at hm; omega, ?_, ?_⟩
    · intro n hn
      exact hw n (List.mem_of_mem_take hn)
    · intro h0
      have hlen : len ≠ 0 := by rw [List.length_take] at h0; omega
      obtain ⟨b, off, rfl, hc'⟩ := ints_at hc (by omega)
      refine ⟨b, off, rfl, block_lt_of_cell (hc' 0 (by omega)), fun j hj => ?_⟩
      have hj' : j < len := by rw [List.length_take] at hj; omega
      rw [hc' j (by omega), L.gd_lt hj, L.gd_lt (by omega : j < zs.length), List.getElem_take]
end Go.Proofs.YtkfelkpilaipnaaDoor

namespace Go.Proofs.YtkfelkpilaipnaaDoor
set_option maxRecDepth 100000
open Go.RowKit

theorem addZ (g o j : Nat) : ((⟨g, o, none⟩ : Addr).add j) = ⟨g, o + j, none⟩ := by unfold Addr.add; by_cases h0 : j = 0 <;> simp [h0]

/-- A slice value's address A, with these tokens, all of it below block B. -/
def RdT (L : List Int) (w : World) (B : Nat) (A : Option Addr) (ts : List Tok) : Prop :=
  ts.length ≠ 0 → ∃ g o, A = some ⟨g, o, none⟩ ∧ g < B ∧ ∀ i j u, (hi : i < ts.length) → (tcells L ts[i])[j]? = some u → w.cell? ⟨g, o + (i * 3 + j), none⟩ = some u
theorem RdT.nil (L : List Int) (w : World) (B : Nat) (A : Option Addr) : RdT L w B A [] := fun h => absurd rfl h
theorem RdT.keep {L : List Int} {w w' : World} {B : Nat} {A : Option Addr} {ts : List Tok} (h : RdT L w B A ts) (hk : ∀ g o, g < B → w'.cell? ⟨g, o, none⟩ = w.cell? ⟨g, o, none⟩) : RdT L w' B A ts := fun hn => by
  obtain ⟨g, o, e, hg, hc⟩ := h hn
  exact ⟨g, o, e, hg, fun i j u hi hu => (hk _ _ hg).trans (hc i j u hi hu)⟩
theorem RdT.more {L : List Int} {w : World} {B B' : Nat} {A : Option Addr} {ts : List Tok} (h : RdT L w B A ts) (hB : B ≤ B') : RdT L w B' A ts := fun hn => by
  obtain ⟨g, o, e, hg, hc⟩ := h hn
  exact ⟨g, o, e, by omega, hc⟩
theorem RdT.grown {L : List Int} {w w' : World} {B : Nat} {A : Option Addr} {ts : List Tok} {row : Option Nat} (h : RdT L w B A ts) (hg : w.grownBy w' row) (hr : ∀ k, row = some k → B ≤ k) (hs : B ≤ w.heap.size) : RdT L w' B A ts :=
  h.keep fun p o hp => World.cell?_of_block (hg.block p (by omega) (fun e => by have := hr p e.symm; omega))
theorem RdT.below {L : List Int} {w w' : World} {B B' : Nat} {A : Option Addr} {ts : List Tok} (h : RdT L w B A ts) (hb : Below B' w w') (hB : B ≤ B') : RdT L w' B A ts :=
  h.keep fun g o hg => hb.cell (p := ⟨g, o, none⟩) (Nat.lt_of_lt_of_le hg hB)
/-- A slice of the call's own reads as its tokens. -/
theorem OwnT.rd {L : List Int} {w : World} {base : Nat} {v : Value} {xs : List Tok} (h : OwnT L w base v xs) : ∃ A c, v = .slice A xs.length c ∧ xs.length ≤ c ∧ c ≤ maxLen ∧ RdT L w w.heap.size A xs := by
  obtain ⟨A, c, rfl, h1, h2⟩ := h.form
  refine ⟨A, c, rfl, h1, h2, fun h0 => ?_⟩
  obtain ⟨g, c', e, _, _, _, hg, hcell⟩ := h.addr h0
  injection e with e1 e2 e3
  refine ⟨g, 0, e1, hg, fun i j u hi hu => ?_⟩
  have hj : j < 3 := by
    have := (List.getElem?_eq_some_iff.1 hu).1
    simpa [tcells] using this
  rw [Nat.zero_add]
  exact hcell i j u hi hj (by rw [List.getElem?_eq_getElem hi]; exact hu)

/-- The address behind the first token. -/
def nextA (A : Option Addr) (c : Nat) : Option Addr := if c = 1 then A else A.map fun x => x.add 3
theorem RdT.tail {L : List Int} {w : World} {B c : Nat} {A : Option Addr} {t : Tok} {ts : List Tok} (h : RdT L w B A (t :: ts)) (hc : (t :: ts).length ≤ c) : RdT L w B (nextA A c) ts := by
  intro hn
  obtain ⟨g, o, rfl, hg, hcl⟩ := h (by simp)
  refine ⟨g, o + 3, ?_, hg, fun i j u hi hu => ?_⟩
  · unfold nextA
    rw [if_neg (by simp at hc; omega), Option.map_some, addZ]
  · have := hcl (i + 1) j u (by simp; omega) (by simpa using hu)
    rwa [show o + 3 + (i * 3 + j) = o + ((i + 1) * 3 + j) by omega]

/-- A reference's cells; the text gives the place. -/
def rcells (L : List Int) (x : Tok) : List Value := [.string (K.str x.t), .complex .f64 (Fl.fl (Pl.pos (L.take x.o)).1) (Fl.fl (Pl.pos (L.take x.o)).2)]
theorem rcells_len (L : List Int) (xs : List Tok) : (xs.flatMap (rcells L)).length = xs.length * 2 := by
  induction xs with
  | nil => rfl
  | cons x r ih => simp [List.flatMap_cons, ih, rcells]; omega
theorem rcells_at (L : List Int) (xs : List Tok) (i j : Nat) (hi : i < xs.length) (hj : j < 2) : (xs.flatMap (rcells L))[i * 2 + j]? = (rcells L xs[i])[j]? := by
  induction xs generalizing i with
  | nil => simp at hi
  | cons x r ih =>
    rw [List.flatMap_cons]
    have hl : (rcells L x).length = 2 := rfl
    cases i with
    | zero => rw [List.getElem?_append_left (by omega)]; simp
    | succ i =>
      rw [List.getElem?_append_right (by omega), hl, show (i + 1) * 2 + j - 2 = i * 2 + j by omega]
      simpa using ih i (by simpa using hi)
/-- A slice value's address A, with these references, in a block of references from block B on. -/
def RdR (L : List Int) (w : World) (B : Nat) (A : Option Addr) (xs : List Tok) : Prop :=
  xs.length ≠ 0 → ∃ (g : Nat) (cur : Array Value), A = some ⟨g, 0, none⟩ ∧ B ≤ g ∧ w.heap[g]? = some (.cells cur 78 (0, 0)) ∧ ∀ (j : Nat) (u : Value), (xs.flatMap (rcells L))[j]? = some u → cur[j]? = some u
theorem RdR.nil (L : List Int) (w : World) (B : Nat) (A : Option Addr) : RdR L w B A [] := fun h => absurd rfl h
/-- What is written to a block of another kind changes no references. -/
def Other (w : World) (row : Option Nat) : Prop := ∀ k, row = some k → ∀ cur, w.heap[k]? ≠ some (.cells cur 78 (0, 0))
theorem Other.none (w : World) : Other w .none := fun _ h => by cases h
theorem RdR.grown {L : List Int} {w w' : World} {B : Nat} {A : Option Addr} {xs : List Tok} {row : Option Nat} (h : RdR L w B A xs) (hg : w.grownBy w' row) (hr : Other w row) : RdR L w' B A xs := fun hn => by
  obtain ⟨g, cur, e, hB, hh, hc⟩ := h hn
  exact ⟨g, cur, e, hB, (hg.block g (Array.getElem?_eq_some_iff.1 hh).1 (fun e => hr g e.symm cur hh)).trans hh, hc⟩
theorem RdR.less {L : List Int} {w : World} {B B' : Nat} {A : Option Addr} {xs : List Tok} (h : RdR L w B A xs) (hB : B' ≤ B) : RdR L w B' A xs := fun hn => by
  obtain ⟨g, cur, e, hb, hh⟩ := h hn
  exact ⟨g, cur, e, by omega, hh⟩
theorem RdR.below {L : List Int} {w w' : World} {B : Nat} {A : Option Addr} {xs : List Tok} (h : RdR L w B A xs) (hb : Below w.heap.size w w') : RdR L w' B A xs := h.grown (only_below hb .none) (Other.none w)
theorem RdR.cell {L : List Int} {w : World} {B : Nat} {A : Option Addr} {xs : List Tok} (h : RdR L w B A xs) (h0 : xs.length ≠ 0) : ∃ g, A = some ⟨g, 0, none⟩ ∧ B ≤ g ∧ ∀ i j u, (hi : i < xs.length) → j < 2 → (rcells L xs[i])[j]? = some u → w.cell? ⟨g, i * 2 + j, none⟩ = some u := by
  obtain ⟨g, cur, e, hB, hh, hc⟩ := h h0
  refine ⟨g, e, hB, fun i j u hi hj hu => ?_⟩
  rw [cell_of_row w g _ _ _ _ hh]
  exact hc _ _ (by rw [rcells_at L xs i j hi hj]; exact hu)

/-- A slice of the call's own with these references, nil or not. -/
def OwnR (L : List Int) (w : World) (base : Nat) (v : Value) (xs : List Tok) : Prop := w.ownsRow base 78 2 v xs.length (xs.flatMap (rcells L))
theorem OwnR.nil (L : List Int) (w : World) (base : Nat) : OwnR L w base (.slice none 0 0) [] := World.ownsRow_nil w base _ _
theorem OwnR.alloc {L : List Int} {w : World} {base : Nat} {v : Value} {xs : List Tok} (h : OwnR L w base v xs) (o : Obj) : OwnR L (w.alloc o) base v xs := World.ownsRow.alloc h o
theorem OwnR.grown {L : List Int} {w w' : World} {base : Nat} {v : Value} {xs : List Tok} {row : Option Nat} (h : OwnR L w base v xs) (hg : w.grownBy w' row) (hr : Other w row) : OwnR L w' base v xs := by
  refine ⟨h.1, ?_⟩
  rcases h.2 with h0 | ⟨g, cap, cur, e, hb1, hh, hrr⟩
  · exact .inl h0
  · exact .inr ⟨g, cap, cur, e, hb1, (hg.block g (Array.getElem?_eq_some_iff.1 hh).1 (fun e => hr g e.symm cur hh)).trans hh, hrr⟩
theorem OwnR.below {L : List Int} {w w' : World} {base : Nat} {v : Value} {xs : List Tok} (h : OwnR L w base v xs) (hb : Below w.heap.size w w') : OwnR L w' base v xs := h.grown (only_below hb .none) (Other.none w)
theorem OwnR.rd {L : List Int} {w : World} {base : Nat} {v : Value} {xs : List Tok} (h : OwnR L w base v xs) : ∃ A c, v = .slice A xs.length c ∧ xs.length ≤ c ∧ c ≤ maxLen ∧ RdR L w base A xs := by
  rcases h.2 with ⟨rfl, h0⟩ | ⟨g, cap, cur, rfl, hb, hg, hn, hm, hs, ht⟩
  · exact ⟨none, 0, by rw [h0], by omega, by unfold maxLen; omega, fun hc => absurd h0 hc⟩
  · refine ⟨some ⟨g, 0, none⟩, cap, rfl, hn, hm, fun _ => ⟨g, cur, rfl, hb, hg, fun j u hu => ?_⟩⟩
    rw [← ht] at hu
    have hj := (List.getElem?_eq_some_iff.1 hu).1
    rw [List.length_take] at hj
    rw [List.getElem?_take_of_lt (by omega)] at hu
    simpa using hu
theorem infoR : (Tryd.prog.info? 78).map (fun i => (i.zero, i.size, i.bytes)) = some (some (.agg #[.string ⟨#[]⟩, .complex .f64 0 0]), 2, 32) := by kernel_rfl

/-- append of one reference, which lies in a block of its own, to a slice of the call's own. -/
theorem apR_arm {w : World} {ops : Array Oper} {rest : List Oper} {o : Oper} {a : Act} {Q : Exit → Act → World → Prop}
    (hgd : o.guard = none) (s x : Operand) (t : TypeId) (ho : o.op = .call { callee := .builtin .append, args := #[s, x], argTypes := #[t, t] }) (ht : Tryd.prog.underlying t = some (.slice 78))
    (L : List Int) (base : Nat) (v : Value) (xs : List Tok) (hs : a.eval s = v) (hown : OwnR L w base v xs) (g c : Nat) (y : Tok) (hx : a.eval x = .slice (some ⟨g, 0, none⟩) 1 c) (hz : ∀ j u, (rcells L y)[j]? = some u → w.cell? ⟨g, j, none⟩ = some u)
    (hlen : xs.length ≤ 1000000) (hbase : base ≤ w.heap.size)
    (hK : ∀ v' w', OwnR L w' base v' (xs ++ [y]) → w.grownBy w' v.ownBlock → wpList Tryd.prog ops Q rest (a.put o.dst v') w') :
    wpList Tryd.prog ops Q (o :: rest) a w := by
  obtain ⟨i, hi, hz0, hz1, hz2⟩ := info_parts infoR
  refine wpList_append_own w hgd s x t ho base 78 i _ 2 32 ht hi hz0 hz1 hz2 rfl (by decide) v xs.length (xs.flatMap (rcells L)) hs hown ⟨g, 0, none⟩ 1 c (rcells L y) hx rfl ?_ ?_ (by unfold maxLen; omega) (by omega) hbase fun v' w' h1 h2 _ => hK v' w' ?_ h2
  · intro j u hj
    rw [addZ, Nat.zero_add]
    exact hz j u hj
  · intro u hu; simp [rcells] at hu; rcases hu with rfl | rfl <;> rfl
  · unfold OwnR
    rw [List.length_append, List.flatMap_append, List.flatMap_singleton]; exact h1
theorem _root_.Go.World.grownBy.row {w w' : World} (h : w.grownBy w' .none) (row : Option Nat) : w.grownBy w' row := ⟨h.os, h.tape, h.output, h.size, fun k hk _ => h.block k hk (by simp)⟩
/-- What turns a block of the call's own leaves what there was. -/
theorem grown_own {a w w' : World} {row : Option Nat} {e : TypeId} {size n : Nat} {v : Value} {xs : List Value} (h : a.grownBy w row) (ho : w.ownsRow a.heap.size e size v n xs) (hg : w.grownBy w' v.ownBlock) : a.grownBy w' row :=
  ⟨hg.os.trans h.os, hg.tape.trans h.tape, hg.output.trans h.output, Nat.le_trans h.size hg.size, fun k hk hne => (hg.block k (Nat.lt_of_lt_of_le hk h.size) (fun e => by have := (World.ownsRow.lt ho k e.symm).1; omega)).trans (h.block k hk hne)⟩
/-- A reference that is made lies there. -/
theorem ref_cells (L : List Int) (w : World) (t : Tok) : ∀ j u, (rcells L t)[j]? = some u → (w.alloc (.cells #[.string (K.str t.t), .complex .f64 (Fl.fl (Pl.pos (L.take t.o)).1) (Fl.fl (Pl.pos (L.take t.o)).2)] 78)).cell? ⟨w.heap.size, j, none⟩ = some u := by
  intro j u hu
  rw [World.cell?_alloc_new]
  simpa [rcells] using hu
/-- A block that was made before a call is as it was made. -/
theorem block_kept {w w2 : World} {o : Obj} {R : Nat} (h : (w.alloc o).grownBy w2 (some R)) (hR : R < w.heap.size) : w2.heap[w.heap.size]? = some o := by
  rw [h.block w.heap.size (by simp) (fun e => by injection e with e; omega)]
  exact heap_alloc_new w o
theorem only_far {a w : World} {row : Option Nat} (h : a.grownBy w row) (g i : Nat) (u : Value) (hg : a.heap.size ≤ g) : a.grownBy (w.setCell ⟨g, i, none⟩ u) row :=
  ⟨h.os, h.tape, h.output, by simpa [World.setCell] using h.size, fun k hk hne => (Below.heap_setCell w ⟨g, i, none⟩ u k (by simp only; omega)).trans (h.block k hk hne)⟩
end Go.Proofs.YtkfelkpilaipnaaDoor

namespace Go.Proofs.YtkfelkpilaipnaaDoor
set_option maxRecDepth 100000
open Go.RowKit

def slLen (v : Value) : Nat := match v with | .slice _ n _ => n | _ => 0
/-- What is answered of a text. -/
def ToksAns (L : List Int) (r : Out) (w : World) (e : Ending) (w' : World) : Prop :=
  match r with
  | .ok xs => ∃ v, e = .returned (.tuple #[v, .complex .f64 (Fl.fl (Pl.pos L).1) (Fl.fl (Pl.pos L).2), .int .i64 0]) ∧ OwnT L w' w.heap.size v xs ∧ Below w.heap.size w w'
  | .bad o d => e = .returned (.tuple #[.slice none 0 0, .complex .f64 (Fl.fl (Pl.pos (L.take o)).1) (Fl.fl (Pl.pos (L.take o)).2), .int .i64 d]) ∧ Below w.heap.size w w'
end Go.Proofs.YtkfelkpilaipnaaDoor

namespace Go.Proofs.YtkfelkpilaipnaaDoor
set_option maxRecDepth 100000
open Go.RowKit

def refV (L : List Int) (t : Tok) : Value := .agg #[.string (K.str t.t), .complex .f64 (Fl.fl (Pl.pos (L.take t.o)).1) (Fl.fl (Pl.pos (L.take t.o)).2)]

theorem slice_next (w : World) (A : Option Addr) (c n : Nat) (hk : 1 ≤ n) : (Instr.sliceAt 72 (.slice A n c) (some (.int .i64 1)) none none).run Tryd.prog w = .ok (.slice (nextA A c) (n - 1) (c - 1)) w := by
  rw [run_sliceAt_slice _ _ _ _ _ _ (by kernel_rfl), run_slice_l _ _ _ _ _ (by kernel_rfl) .i64 (1 : Int) (by omega) (by omega)]
  have hs : (sizeOf (Tryd.prog.elem 72)).run Tryd.prog w = .ok 3 w := by kernel_rfl
  rw [hs]
  simp [Result.andThen, sliced, nextA]

end Go.Proofs.YtkfelkpilaipnaaDoor

namespace Go.Calm
open Go.RowKit

section
variable {P : Program} {ops : Array Oper} {Q : Exit → Act → World → Prop} {md : Region.Mode}

/-- An operation that yields a value and enters nothing. -/
def plainB : Op → Bool
  | .move _ | .assign _ | .pick .. | .load .. | .convert .. | .binOp .. | .unOp .. | .slice .. | .fieldAddr .. | .field .. | .indexAddr .. | .index .. | .extract .. | .build .. => true
  | .call c => match c.callee with
    | .builtin .len | .builtin .cap => true
    | _ => false
  | _ => false

theorem value_of {s : Sem Value} {w w' : World} {n : Next} (h : ((do pure (.value (← s))) : Sem Next).run P w = .ok n w') : ∃ u, n = .value u := by
  rw [Sem.run_bind] at h
  cases hs : s.run P w with
  | ok v w1 => rw [hs] at h; simp [Result.andThen, Sem.run_pure] at h; exact ⟨v, h.1.symm⟩
  | halt x w1 => rw [hs] at h; simp [Result.andThen] at h

theorem plain_value {o : Oper} (hp : plainB o.op = true) {a : Act} {w w' : World} {n : Next} (h : (execOp a.eval o).run P w = .ok n w') : ∃ u, n = .value u := by
  obtain ⟨dst, op, type, pos, after, guard⟩ := o
  cases op with
  | call c =>
    obtain ⟨callee, args, ats⟩ := c
    cases callee with
    | builtin b =>
      cases b with
      | len => exact value_of (s := Builtin.len_ ats type (args.map a.eval)) h
      | cap => exact value_of (s := Builtin.cap_ ats type (args.map a.eval)) h
      | _ => exact absurd hp (by simp [plainB])
    | invoke recv name => exact absurd hp (by simp [plainB])
    | value f => exact absurd hp (by simp [plainB])
  | move x => simp [execOp, Sem.run_pure] at h; exact ⟨_, h.1.symm⟩
  | assign x => simp [execOp, Sem.run_pure] at h; exact ⟨_, h.1.symm⟩
  | pick c x y =>
    simp only [execOp, Sem.run_bind] at h
    cases hs : (asBool (a.eval c)).run P w with
    | ok v w1 => rw [hs] at h; simp [Result.andThen, Sem.run_pure] at h; exact ⟨_, h.1.symm⟩
    | halt x w1 => rw [hs] at h; simp [Result.andThen] at h
  | _ => first
    | (simp [plainB] at hp; done)
    | exact value_of h

theorem yieldsIf_of {S : World → Prop} {o : Oper} {a : Act} {v : Value} (hp : plainB o.op = true) (hw : Region.wanted o (yielded ops a.tmps) = true) (h : ∀ w, S w → o.quietAt P a S w v) : YieldsIf P ops S o v a := by
  refine .inl ⟨hw, fun w hS => ?_⟩
  have h1 := h w hS
  unfold Oper.quietAt at h1
  cases hr : (execOp a.eval o).run P w with
  | ok n w' =>
    obtain ⟨u, rfl⟩ := plain_value hp hr
    rw [hr] at h1
    simp only [Oper.quietUpon] at h1
    rw [h1.1, h1.2]
  | halt x w' => rw [hr] at h1; simp [Oper.quietUpon] at h1

def pickOps (ops : Array Oper) : List Nat → List Oper
  | [] => []
  | i :: r => match ops[i]? with
    | some o => o :: pickOps ops r
    | none => pickOps ops r
def marked : List Nat → Array Bool → Array Bool
  | [], l => l
  | i :: r, l => marked r (l.setIfInBounds i true)
def stillB (md : Region.Mode) (ops : Array Oper) : List Nat → Array Bool → Bool
  | [], _ => true
  | i :: r, l => (match ops[i]? with | some o => plainB o.op | none => false) && Region.free md ops l i && (Region.ready md ops l).contains i && stillB md ops r (l.setIfInBounds i true)

theorem anyH_mono {S S' : World → Prop} (h : ∀ x, S' x → S x) : ∀ (fuel : Nat) (listed : Array Bool) (a : Act) (w : World), wpAnyH P md ops Q S' fuel listed a w → wpAnyH P md ops Q S fuel listed a w
  | 0, _, _, _, k => k
  | fuel + 1, _, _, _, k => ⟨k.1, fun i hi => wpOp_mono (fun a w hk => ⟨h _ hk.1, anyH_mono h fuel _ a w hk.2⟩) (k.2 i hi)⟩

/-- What only reads comes first. -/
theorem still_block {S : World → Prop} (hs : Region.noSelect ops = true) (hQ : ∀ c a d v w, Q (.panic c) (a.put d v) w → Q (.panic c) a w) {w : World} (hS : S w) (fuel : Nat) :
    ∀ (p : List Nat) (listed : Array Bool) (a : Act), stillB md ops p listed = true →
      wpQuiet P ops S (fun a' => wpAnyH P md ops Q S fuel (marked p listed) a' w) (pickOps ops p) a → wpAnyH P md ops Q S (p.length + fuel) listed a w
  | [], _, _, _, h => by rw [List.length_nil, Nat.zero_add]; exact h
  | i :: r, listed, a, hb, h => by
    unfold stillB at hb
    cases ho : ops[i]? with
    | none => rw [ho] at hb; simp at hb
    | some o =>
      rw [ho] at hb
      simp only [Bool.and_eq_true] at hb
      obtain ⟨⟨⟨hp, hf⟩, hr⟩, hrest⟩ := hb
      have hl : pickOps ops (i :: r) = o :: pickOps ops r := by simp only [pickOps, ho]
      rw [hl] at h
      rw [show (i :: r).length + fuel = (r.length + fuel) + 1 by rw [List.length_cons]; omega]
      unfold wpQuiet at h
      by_cases hw : Region.wanted o (yielded ops a.tmps) = true
      · rw [if_pos hw] at h
        obtain ⟨v, h1, h2⟩ := h
        exact wpAnyH_take ho hs hf hr (fun c a w => hQ c a o.dst v w) (yieldsIf_of hp hw h1) hS (still_block hs hQ hS fuel r _ _ hrest h2)
      · rw [if_neg hw] at h
        exact wpAnyH_take ho hs hf hr (fun c a w => hQ c a o.dst undef w) (.inr ⟨by simpa using hw, rfl⟩) hS (still_block hs hQ hS fuel r _ _ hrest h)

where
  wpQuiet_mono' {S : World → Prop} {Q1 Q2 : Act → Prop} (h : ∀ a, Q1 a → Q2 a) : ∀ {l : List Oper} {a : Act}, wpQuiet P ops S Q1 l a → wpQuiet P ops S Q2 l a
    | [], _, k => h _ k
    | o :: r, a, k => by
      unfold wpQuiet at k ⊢
      split
      · rename_i hw; rw [if_pos hw] at k; obtain ⟨v, h1, h2⟩ := k; exact ⟨v, h1, wpQuiet_mono' h h2⟩
      · rename_i hw; rw [if_neg hw] at k; exact wpQuiet_mono' h k

end

/-- The worlds that go on from one and leave what lies below B as it was. -/
def On (B : Nat) (w : World) : Type := {x : World // Below B w x}
instance (B : Nat) (w : World) : Nonempty (On B w) := ⟨⟨w, Below.refl _ _⟩⟩
end Go.Calm
