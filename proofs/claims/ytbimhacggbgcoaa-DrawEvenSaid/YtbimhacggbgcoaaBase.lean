/- Words for memory over this program: a slice of 32-bit numbers that reads as a list, a block of the call's own that is known whole, and how both stay as the world goes on. -/
import Derived.Test.YtbimhacggbgcoaaProg
import Derived.Test.YtbimhacggbgcoaaMath
import Derived.WalkKit
import Derived.WalkSpells
import Derived.WalkLawsBesides
import Derived.Deep.Draws
import Derived.BigQuiet
import Derived.Deep.QuietTactic
import Derived.RegionTactic
import Derived.Deep.DeepFit
namespace Go.Proofs.Ytbimhacggbgcoaa
open Go.RowKit

theorem hide {p : Prop} (h : p) : Hid p := h

/-- A slice value's address A, with the elements zs, all of it below block B. -/
def Rd (w : World) (B : Nat) (A : Option Addr) (zs : List Int) : Prop :=
  zs.length ≠ 0 → ∃ g o, A = some ⟨g, o, none⟩ ∧ g < B ∧ ∀ j, j < zs.length → w.cell? ⟨g, o + j, none⟩ = some (.int .u32 (zs.getD j 0))

theorem Rd.nil (w : World) (B : Nat) (A : Option Addr) : Rd w B A [] := fun h => absurd rfl h
theorem Rd.keep {w w' : World} {B : Nat} {A : Option Addr} {zs : List Int} (h : Rd w B A zs) (hk : ∀ g o, g < B → w'.cell? ⟨g, o, none⟩ = w.cell? ⟨g, o, none⟩) : Rd w' B A zs := fun hn => by
  obtain ⟨g, o, e, hg, hc⟩ := h hn
  exact ⟨g, o, e, hg, fun j hj => (hk _ _ hg).trans (hc j hj)⟩
theorem Rd.more {w : World} {B B' : Nat} {A : Option Addr} {zs : List Int} (h : Rd w B A zs) (hB : B ≤ B') : Rd w B' A zs := fun hn => by
  obtain ⟨g, o, e, hg, hc⟩ := h hn
  exact ⟨g, o, e, by omega, hc⟩
theorem Rd.below {w w' : World} {B B' : Nat} {A : Option Addr} {zs : List Int} (h : Rd w B A zs) (hb : Below B' w w') (hB : B ≤ B') : Rd w' B A zs :=
  h.keep fun g o hg => hb.cell (p := ⟨g, o, none⟩) (Nat.lt_of_lt_of_le hg hB)
theorem Rd.drewN {w : World} {B : Nat} {A : Option Addr} {zs : List Int} (h : Rd w B A zs) (n : Nat) : Rd (w.drewN n) B A zs := h
theorem Rd.drew {w : World} {B : Nat} {A : Option Addr} {zs : List Int} (h : Rd w B A zs) : Rd w.drew B A zs := h
theorem Rd.alloc {w : World} {B : Nat} {A : Option Addr} {zs : List Int} (h : Rd w B A zs) (hB : B ≤ w.heap.size) (o : Obj) : Rd (w.alloc o) B A zs :=
  h.keep fun g i hg => World.cell?_alloc_lt w o ⟨g, i, none⟩ (Nat.lt_of_lt_of_le hg hB)
theorem Rd.grown {w w' : World} {B : Nat} {A : Option Addr} {zs : List Int} {g : Nat} (h : Rd w B A zs) (hg : w.grownBy w' (some g)) (hB : B ≤ g) (hs : B ≤ w.heap.size) : Rd w' B A zs :=
  h.keep fun p o hp => World.cell?_of_block (hg.block p (by omega) (fun e => by injection e with e; omega))
theorem Rd.take {w : World} {B : Nat} {A : Option Addr} {zs : List Int} (h : Rd w B A zs) (k : Nat) : Rd w B A (zs.take k) := fun hn => by
  have hl : (zs.take k).length ≤ zs.length := by rw [List.length_take]; omega
  obtain ⟨g, o, e, hg, hc⟩ := h (by omega)
  refine ⟨g, o, e, hg, fun j hj => ?_⟩
  rw [hc j (by omega), M.gd_lt hj, M.gd_lt (by omega : j < zs.length), List.getElem_take]

/-- Block g is just the numbers ls, of the call's own. -/
def UB (w : World) (g : Nat) (ls : List Int) : Prop := w.heap[g]? = some (.cells (ls.map (Value.int .u32)).toArray 34 (0, 0))

theorem UB.lt {w : World} {g : Nat} {ls : List Int} (h : UB w g ls) : g < w.heap.size := by
  rcases Nat.lt_or_ge g w.heap.size with hlt | hge
  · exact hlt
  · unfold UB at h; rw [Array.getElem?_eq_none hge] at h; cases h
theorem UB.cell {w : World} {g : Nat} {ls : List Int} (h : UB w g ls) (i : Nat) (hi : i < ls.length) : w.cell? ⟨g, i, none⟩ = some (.int .u32 (ls.getD i 0)) := by
  rw [cell_of_row w g i _ _ _ h]; simp [hi, List.getD]
theorem UB.frozen {w : World} {g : Nat} {ls : List Int} (h : UB w g ls) (i : Nat) : w.frozen? ⟨g, i, none⟩ = false := frozen_of_row w g i _ _ h
theorem UB.new (w : World) (ls : List Int) : UB (w.alloc (.cells (ls.map (Value.int .u32)).toArray 34)) w.heap.size ls := heap_alloc_new w _
theorem UB.drewN {w : World} {g : Nat} {ls : List Int} (h : UB w g ls) (n : Nat) : UB (w.drewN n) g ls := h
theorem UB.drew {w : World} {g : Nat} {ls : List Int} (h : UB w g ls) : UB w.drew g ls := h
theorem UB.alloc {w : World} {g : Nat} {ls : List Int} (h : UB w g ls) (o : Obj) : UB (w.alloc o) g ls := (Below.heap_alloc w o g h.lt).trans h
theorem UB.set_ {w : World} {g : Nat} {ls : List Int} (h : UB w g ls) (i : Nat) (z : Int) : UB (w.setCell ⟨g, i, none⟩ (.int .u32 z)) g (ls.set i z) := by
  unfold UB at h ⊢
  rw [heap_setCell_same w g i _ _ _ h]
  congr 2
  apply Array.ext'
  simp [List.map_set]
theorem UB.far {w : World} {g : Nat} {ls : List Int} (h : UB w g ls) {p : Addr} (hp : g ≠ p.block) (u : Value) : UB (w.setCell p u) g ls := (Below.heap_setCell w p u g hp).trans h
theorem UB.below {w w' : World} {g B : Nat} {ls : List Int} (h : UB w g ls) (hb : Below B w w') (hg : g < B) : UB w' g ls := (hb.block g hg).trans h
theorem UB.grown {w w' : World} {g : Nat} {ls : List Int} {row : Option Nat} (h : UB w g ls) (hb : w.grownBy w' row) (hg : some g ≠ row) : UB w' g ls := (hb.block g h.lt hg).trans h
theorem UB.mid {w : World} {g o : Nat} {pre xs post : List Int} (h : UB w g (pre ++ xs ++ post)) (ho : o = pre.length) (k : Nat) (hk : k < xs.length) : w.cell? ⟨g, o + k, none⟩ = some (.int .u32 (xs.getD k 0)) := by
  rw [h.cell (o + k) (by simp; omega), ho, M.mid_getD pre xs post k hk]
theorem UB.mid_set {w : World} {g o : Nat} {pre xs post : List Int} (h : UB w g (pre ++ xs ++ post)) (ho : o = pre.length) (k : Nat) (z : Int) (hk : k < xs.length) : UB (w.setCell ⟨g, o + k, none⟩ (.int .u32 z)) g (pre ++ xs.set k z ++ post) := by
  have := h.set_ (o + k) z; rwa [ho, M.mid_set pre xs post k z hk, ← ho] at this
/-- A part of a block of the call's own reads as its numbers. -/
theorem UB.rd {w : World} {g : Nat} {ls : List Int} (h : UB w g ls) (o n : Nat) (hn : o + n ≤ ls.length) {B : Nat} (hB : g < B) : Rd w B (some ⟨g, o, none⟩) ((ls.drop o).take n) := fun _ => by
  refine ⟨g, o, rfl, hB, fun j hj => ?_⟩
  have hj' : j < n := by rw [List.length_take] at hj; omega
  rw [h.cell (o + j) (by omega), M.gd_lt hj, M.gd_lt (by omega : o + j < ls.length), List.getElem_take, List.getElem_drop]
theorem UB.rd0 {w : World} {g : Nat} {ls : List Int} (h : UB w g ls) {B : Nat} (hB : g < B) : Rd w B (some ⟨g, 0, none⟩) ls := by
  have := h.rd 0 ls.length (by omega) hB; simpa using this

theorem only_drewN {a w : World} {row : Option Nat} (h : a.grownBy w row) (n : Nat) : a.grownBy (w.drewN n) row := ⟨h.os, h.tape, h.output, h.size, h.block⟩
theorem only_alloc {a w : World} {row : Option Nat} (h : a.grownBy w row) (o : Obj) : a.grownBy (w.alloc o) row :=
  ⟨h.os, h.tape, h.output, Nat.le_trans h.size (by simp), fun i hi hne => (Below.heap_alloc w o i (Nat.lt_of_lt_of_le hi h.size)).trans (h.block i hi hne)⟩
theorem only_set {a w : World} {g : Nat} (h : a.grownBy w (some g)) (i : Nat) (u : Value) : a.grownBy (w.setCell ⟨g, i, none⟩ u) (some g) :=
  ⟨h.os, h.tape, h.output, by simpa [World.setCell] using h.size, fun k hk hne => (Below.heap_setCell w ⟨g, i, none⟩ u k (by rintro rfl; exact hne rfl)).trans (h.block k hk hne)⟩
theorem only_trans {a b c : World} {row : Option Nat} (h : a.grownBy b row) (k : b.grownBy c row) : a.grownBy c row :=
  ⟨k.os.trans h.os, k.tape.trans h.tape, k.output.trans h.output, Nat.le_trans h.size k.size, fun i hi hne => (k.block i (Nat.lt_of_lt_of_le hi h.size) hne).trans (h.block i hi hne)⟩
theorem only_below {a w : World} (h : Below a.heap.size a w) (row : Option Nat) : a.grownBy w row := ⟨h.os, h.tape, h.output, h.size, fun i hi _ => h.block i hi⟩
/-- What turns a block that is new to a world leaves that world as it was. -/
theorem below_only {a w w' : World} {B g : Nat} (h : Below B a w) (hg : w.grownBy w' (some g)) (hB : B ≤ g) (hs : B ≤ w.heap.size) : Below B a w' :=
  h.grown hg hs (fun k e => by injection e with e; omega)
theorem below_drewN {B : Nat} {a w : World} (h : Below B a w) (n : Nat) : Below B a (w.drewN n) := ⟨h.os, h.tape, h.output, h.size, h.block⟩
theorem ret_int {k : IntKind} {a b : Int} (h : a = b) : Ending.returned (.int k a) = .returned (.int k b) := by rw [h]
theorem ret_slice {A : Option Addr} {c m n : Nat} (h : m = n) : Ending.returned (.slice A m c) = .returned (.slice A n c) := by rw [h]
theorem ret_bool {a b : Bool} (h : a = b) : Ending.returned (.bool a) = .returned (.bool b) := by rw [h]
end Go.Proofs.Ytbimhacggbgcoaa
