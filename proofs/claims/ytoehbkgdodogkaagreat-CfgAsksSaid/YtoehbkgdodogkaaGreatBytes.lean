/- Bytes as numbers, as texts, and slices of bytes that are built of constants: words over this program. -/
import Derived.Test.YtoehbkgdodogkaaGreatWordsB
import Derived.Laws.IdiomStrings
namespace Go.Proofs.YtoehbkgdodogkaaGreat
open Go.RowKit

namespace K
def Bytes (l : List Int) : Prop := ∀ z ∈ l, 0 ≤ z ∧ z < 256
theorem Bytes.nil : Bytes [] := by simp [Bytes]
theorem Bytes.tl {z : Int} {r : List Int} (h : Bytes (z :: r)) : Bytes r := fun x hx => h x (List.mem_cons_of_mem _ hx)
theorem Bytes.hd {z : Int} {r : List Int} (h : Bytes (z :: r)) : 0 ≤ z ∧ z < 256 := h z (List.mem_cons_self ..)
theorem Bytes.app {l m : List Int} (h : Bytes l) (k : Bytes m) : Bytes (l ++ m) := fun z hz => by
  rcases List.mem_append.1 hz with h1 | h1
  · exact h z h1
  · exact k z h1
theorem Bytes.take {l : List Int} (h : Bytes l) (k : Nat) : Bytes (l.take k) := fun z hz => h z (List.mem_of_mem_take hz)
theorem Bytes.drop {l : List Int} (h : Bytes l) (k : Nat) : Bytes (l.drop k) := fun z hz => h z (List.mem_of_mem_drop hz)
theorem Bytes.getD {l : List Int} (h : Bytes l) (k : Nat) : 0 ≤ l.getD k 0 ∧ l.getD k 0 < 256 := by
  by_cases hk : k < l.length
  · rw [L.gd_lt hk]; exact h _ (List.getElem_mem hk)
  · rw [L.gd_ge (by omega)]; omega
theorem Bytes.set {l : List Int} (h : Bytes l) (k : Nat) {z : Int} (h1 : 0 ≤ z) (h2 : z < 256) : Bytes (l.set k z) := fun x hx => by
  rcases List.mem_or_eq_of_mem_set hx with h3 | h3
  · exact h x h3
  · subst h3; exact ⟨h1, h2⟩

end K

theorem RdB.drop {w : World} {B : Nat} {g o : Nat} {zs : List Int} (h : RdB w B (some ⟨g, o, none⟩) zs) (k : Nat) : RdB w B (some ⟨g, o + k, none⟩) (zs.drop k) := fun hn => by
  have hl : (zs.drop k).length = zs.length - k := by rw [List.length_drop]
  obtain ⟨g', o', e, hg, hc⟩ := h (by omega)
  injection e with e; injection e with e1 e2
  subst e1 e2
  refine ⟨g, o + k, rfl, hg, fun j hj => ?_⟩
  rw [show o + k + j = o + (k + j) by omega, hc (k + j) (by omega), L.gd_lt hj, L.gd_lt (by omega : k + j < zs.length), List.getElem_drop]

/-- Bytes as a text. -/
def K.bytes (l : List Int) : List UInt8 := l.map fun z => UInt8.ofNat z.toNat
def K.str (l : List Int) : ByteArray := ⟨(K.bytes l).toArray⟩
theorem K.bytes_at {l : List Int} (h : K.Bytes l) (j : Nat) (hj : j < (K.bytes l).length) : (((K.bytes l)[j]).toNat : Int) = l.getD j 0 := by
  have hj' : j < l.length := by simpa [K.bytes] using hj
  have hb := h.getD j
  rw [L.gd_lt hj'] at hb ⊢
  simp only [K.bytes, List.getElem_map]
  generalize l[j] = z at *
  have : (UInt8.ofNat z.toNat).toNat = z.toNat := by simp [UInt8.toNat_ofNat']; omega
  rw [this]; omega
theorem K.bytes_inj {l m : List Int} (hl : K.Bytes l) (hm : K.Bytes m) (h : K.bytes l = K.bytes m) : l = m := by
  have hlen : l.length = m.length := by have := congrArg List.length h; simpa [K.bytes] using this
  refine L.getD_ext hlen fun i hi => ?_
  have h1 := K.bytes_at hl i (by simpa [K.bytes] using hi)
  have h2 := K.bytes_at hm i (by simpa [K.bytes] using (hlen ▸ hi))
  rw [← h1, ← h2]
  simp only [h]
theorem K.str_eq {l m : List Int} (hl : K.Bytes l) (hm : K.Bytes m) : (K.str l = K.str m) ↔ l = m := by
  constructor
  · intro h
    refine K.bytes_inj hl hm ?_
    have := congrArg (fun s : ByteArray => s.data.toList) h
    simpa [K.str] using this
  · rintro rfl; rfl

theorem str_ne {a b : ByteArray} (h : a ≠ b) : (a.toList == b.toList) = false := by
  rw [ByteArray.toList_eq, ByteArray.toList_eq, beq_eq_false_iff_ne]
  intro e
  apply h
  cases a; cases b
  simpa using e

/-- string(b): no memory is asked. -/
theorem str_conv {w : World} {B : Nat} {A : Option Addr} {l : List Int} (h : RdB w B A l) (hl : K.Bytes l) (c : Nat) :
    (convert 33 9 (.slice A l.length c)).run Tryz.prog w = .ok (.string (K.str l)) w := by
  have hlen : (K.bytes l).length = l.length := by simp [K.bytes]
  rcases Nat.eq_zero_or_pos l.length with h0 | h0
  · have hn := List.eq_nil_of_length_eq_zero h0
    subst hn
    rw [run_convert_bytes_string w _ _ 5 A _ c Tryz.underlying33 Tryz.underlying5 Tryz.underlying9]
    rcases A with _ | ad
    · rfl
    · rw [run_bytesToString w ad [].length c [] (by rfl)]; rfl
  · obtain ⟨g, o, rfl, _, hc⟩ := h (by omega)
    rw [← hlen]
    refine run_convert_bytes_back w _ _ 5 ⟨g, o, none⟩ c (K.bytes l) Tryz.underlying33 Tryz.underlying5 Tryz.underlying9 fun j hj => ?_
    have e : ((⟨g, o, none⟩ : Addr).add j) = ⟨g, o + j, none⟩ := by unfold Addr.add; by_cases h0 : j = 0 <;> simp [h0]
    rw [e, hc j (by omega), K.bytes_at hl j hj]

theorem bytes_lit (l : List Int) (h : (l.all fun z => decide (0 ≤ z) && decide (z < 256)) = true) : K.Bytes l := fun z hz => by
  have := List.all_eq_true.1 h z hz
  simpa using this

/-- Bytes that are built of a text's own: their block bears the mark of the run-time behind its last cell. -/
def cellsM (b : List Int) : Obj := .cells (b.map (Value.int .u8)).toArray 5 (b.length, b.length + 1)
theorem litM (w : World) (b : List Int) : RdB (w.alloc (cellsM b)) (w.alloc (cellsM b)).heap.size (some ⟨w.heap.size, 0, none⟩) b ∧ Below w.heap.size w (w.alloc (cellsM b)) := by
  refine ⟨fun _ => ⟨w.heap.size, 0, rfl, by simp, fun j hj => ?_⟩, (Below.refl _ _).alloc (Nat.le_refl _) _⟩
  have := World.cell?_alloc_mark w (b.map (Value.int .u8)).toArray 5 (b.length, b.length + 1) (0 + j)
  unfold cellsM
  rw [this]
  simp [hj, List.getD]
theorem lit_conv (w : World) (b : List Int) (n c : Nat) : (convert 33 33 (.slice (some ⟨w.heap.size, 0, none⟩) n c)).run Tryz.prog (w.alloc (.cells (b.map (Value.int .u8)).toArray 5)) = .ok (.slice (some ⟨w.heap.size, 0, none⟩) n c) (w.alloc (cellsM b)) := by
  have hsh : (w.alloc (.cells (b.map (Value.int .u8)).toArray 5)).shape? w.heap.size = some (5, b.length) := by
    unfold World.shape?
    rw [heap_alloc_new]; simp
  have hfr : (w.alloc (.cells (b.map (Value.int .u8)).toArray 5)).freeze ⟨w.heap.size, b.length, none⟩ 1 = w.alloc (cellsM b) := by
    have hm : ∀ (a : Array Obj) (x : Obj) (f : Obj → Obj), (a.push x).modify a.size f = a.push (f x) := by
      intro a x f
      apply Array.ext
      · simp
      · intro i h1 h2
        simp only [Array.getElem_modify, Array.getElem_push]
        by_cases h : a.size = i
        · subst h; simp
        · have hi : i < a.size := by simp at h1; omega
          simp [h, hi]
    unfold World.freeze
    rw [if_neg (by decide)]
    show ({ w with heap := (w.heap.push (.cells (b.map (Value.int .u8)).toArray 5)).modify w.heap.size _ } : World) = _
    rw [hm]
    rfl
  simp [convert, run_underlying Tryz.underlying33, run_underlying Tryz.underlying5, markStringish, hsh]
  exact hfr

end Go.Proofs.YtoehbkgdodogkaaGreat
