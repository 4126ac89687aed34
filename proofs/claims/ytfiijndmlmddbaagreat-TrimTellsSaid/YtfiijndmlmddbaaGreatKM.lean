/- Part of the proofs over this program: GramOpen, RowKit. -/
import Derived.Deep.Slices
import Derived.Deep.Fields
import Derived.ChangeSame
import Derived.Lib.SmallJoins
import Derived.SliceStrings
import Derived.Test.YtfiijndmlmddbaaGreatRows
import Derived.SizedLaws
import Derived.LaidMore
import Derived.Stop.Joined
import Derived.ShutString
import Derived.ChangeOld
import Derived.Test.YtfiijndmlmddbaaGreatKA
namespace Go.Proofs.YtfiijndmlmddbaaGreat
open Go.ChangeShapes Go.WideShapes Go.Deep Go.RowKit Go.Joins

section
variable {H : Type} {enc : TypeId × Value → H} {P : Program} {w : World} {base : Nat} {spare : Nat → Bool} {held : Bool}

/-- A slice of structs of one-cell fields: each field of each element. -/
theorem open_rows {t e : TypeId} {fs : Array Field} {fuel : Nat} {cs : List Value} {x : DataW H × List MemPlace} (ht : P.underlying t = some (.slice e)) (he : P.underlying e = some (.struct fs))
    (hone : oneCellFields P fs = true) (hC : P.cellsOf e = fs.size) (h : DataW.trod enc P w base spare held fuel t cs = some x) :
    cs = [.slice none 0 0] ∨
    ∃ (a : Addr) (len cap : Nat), cs = [.slice (some a) len cap] ∧ len ≤ cap ∧ cap ≤ maxLen ∧
      ∀ i, i < len → ∀ (j : Nat) (f : Field), fs[j]? = some f → ∃ (v : Value) (y : DataW H × List MemPlace) (n : Nat), w.cell? (a.add (i * fs.size + j)) = some v ∧ DataW.trod enc P w base spare held n f.type [v] = some y := by
  rcases open_slice ht h with h0 | ⟨a, len, cap, m, n, D, Pl, hcs, hb, hl, hm, hmm, hx, hi⟩
  · exact .inl h0.1
  · refine .inr ⟨a, len, cap, hcs, hl, hm, fun i him j f hj => ?_⟩
    obtain ⟨cs', hc, ht'⟩ := hi i (by rw [hmm]; split <;> omega)
    rw [hC] at hc
    obtain ⟨ys, n', hn', hy, hlen, hyl, hf⟩ := DataW.trod_struct he ht'
    obtain ⟨_, hcl, hat⟩ := World.cells?_some hc
    obtain ⟨ho, hk⟩ := hone_of hone j f hj
    have hjl : j < fs.size := (Array.getElem?_eq_some_iff.1 hj).1
    have hcell := hat j hjl
    have hv : cs'[j]? = some (cs'[j]'(by omega)) := List.getElem?_eq_getElem (by omega)
    have h1 := hf j f hj
    rw [ho, hk] at h1
    have hone' : (cs'.drop j).take 1 = [cs'[j]'(by omega)] := by
      rw [List.drop_eq_getElem_cons (by omega)]
      rfl
    rw [hone'] at h1
    have hys : ys[j]? = some (ys[j]'(by omega)) := List.getElem?_eq_getElem (by omega)
    refine ⟨_, _, n', ?_, h1.trans hys⟩
    rw [← Go.Deep.add_add, hcell, hv]

/-- An address from which cells are read has no spot of its own. -/
theorem plain_addr {a : Addr} {k : Nat} {v : Value} (h : w.cell? (a.add k) = some v) (hk : k = 0) : a = ⟨a.block, a.off, none⟩ := by
  subst hk
  obtain ⟨b, o, s⟩ := a
  obtain rfl : s = none := by simpa [Addr.add] using World.cell?_spot h
  rfl

theorem open_tms {t e : TypeId} {f0 f1 f2 : Field} {fuel : Nat} {cs : List Value} {x : DataW H × List MemPlace} (ht : P.underlying t = some (.slice e)) (he : P.underlying e = some (.struct #[f0, f1, f2]))
    (hone : oneCellFields P #[f0, f1, f2] = true) (hC : P.cellsOf e = 3) (h0 : P.underlying f0.type = some .string) (h1 : P.underlying f1.type = some (.int .i64)) (h2 : P.underlying f2.type = some (.int .i64)) (h : DataW.trod enc P w base spare held fuel t cs = some x) :
    ∃ A n c ts, cs = [.slice A n c] ∧ n = ts.length ∧ n ≤ c ∧ c ≤ 9223372036854775807 ∧ RdTm w w.heap.size A ts ∧ ∀ x ∈ ts, K.Tx x.nm ∧ Gm.In x.lv ∧ Gm.In x.wy := by
  rcases open_rows ht he hone hC h with rfl | ⟨a, len, cap, rfl, hl, hm, hi⟩
  · exact ⟨none, 0, 0, [], rfl, rfl, Nat.le_refl _, by omega, fun h => absurd rfl h, fun x hx => by simp at hx⟩
  · have hp : ∀ i, i < len → ∃ t : Gm.Tm, (w.cell? (a.add (i * 3)) = some (.string (K.str t.nm)) ∧ w.cell? (a.add (i * 3 + 1)) = some (.int .i64 t.lv) ∧ w.cell? (a.add (i * 3 + 2)) = some (.int .i64 t.wy)) ∧ K.Tx t.nm ∧ Gm.In t.lv ∧ Gm.In t.wy := fun i hil => by
      obtain ⟨v0, y0, n0, c0, t0⟩ := hi i hil 0 f0 rfl
      obtain ⟨v1, y1, n1, c1, t1⟩ := hi i hil 1 f1 rfl
      obtain ⟨v2, y2, n2, c2, t2⟩ := hi i hil 2 f2 rfl
      obtain ⟨s, e0, _, hs0⟩ := DataW.trod_string h0 t0
      obtain ⟨z1, e1, _, w1⟩ := DataW.trod_int h1 t1
      obtain ⟨z2, e2, _, w2⟩ := DataW.trod_int h2 t2
      injection e0 with e0; injection e1 with e1; injection e2 with e2
      subst e0 e1 e2
      obtain ⟨l, hl, rfl⟩ := K.txt s hs0
      exact ⟨⟨l, z1, z2⟩, ⟨c0, c1, c2⟩, hl, bounds_i64 w1, bounds_i64 w2⟩
    obtain ⟨ts, htl, hts⟩ := list_of len _ hp
    refine ⟨some a, len, cap, ts, rfl, htl.symm, hl, by unfold maxLen at hm; omega, fun hn => ?_, fun x hx => ?_⟩
    · have ha := plain_addr (hts 0 (by omega)).1.1 (Nat.zero_mul 3)
      refine ⟨a.block, a.off, congrArg some ha, ?_, fun i hi => ?_⟩
      · have := block_lt_of_cell (hts 0 (by omega)).1.1
        simpa [Addr.add] using this
      · have := (hts i hi).1
        rw [ha, add_plain, add_plain, add_plain] at this
        exact this
    · obtain ⟨i, hi, rfl⟩ := List.getElem_of_mem hx
      exact (hts i hi).2

theorem open_rls {t e u : TypeId} {f0 f1 f2 : Field} {fuel : Nat} {cs : List Value} {x : DataW H × List MemPlace} (ht : P.underlying t = some (.slice e)) (he : P.underlying e = some (.struct #[f0, f1, f2]))
    (hone : oneCellFields P #[f0, f1, f2] = true) (hC : P.cellsOf e = 3) (h0 : P.underlying f0.type = some (.int .i64)) (h1 : P.underlying f1.type = some (.slice u)) (hu : P.underlying u = some (.int .i64)) (hcu : P.cellsOf u = 1) (h2 : P.underlying f2.type = some (.int .i64)) (h : DataW.trod enc P w base spare held fuel t cs = some x) :
    ∃ A n c rs, cs = [.slice A n c] ∧ n = rs.length ∧ n ≤ c ∧ c ≤ 9223372036854775807 ∧ RdRl w w.heap.size A rs ∧ ∀ x ∈ rs, Gm.In x.l ∧ Gm.In x.p ∧ ∀ z ∈ x.r, Gm.In z := by
  rcases open_rows ht he hone hC h with rfl | ⟨a, len, cap, rfl, hl, hm, hi⟩
  · exact ⟨none, 0, 0, [], rfl, rfl, Nat.le_refl _, by omega, fun h => absurd rfl h, fun x hx => by simp at hx⟩
  · have hp : ∀ i, i < len → ∃ t : Gm.Rl, (w.cell? (a.add (i * 3)) = some (.int .i64 t.l) ∧ (∃ A' c', w.cell? (a.add (i * 3 + 1)) = some (.slice A' t.r.length c') ∧ t.r.length ≤ c' ∧ c' ≤ 9223372036854775807 ∧ RdI w w.heap.size A' t.r) ∧ w.cell? (a.add (i * 3 + 2)) = some (.int .i64 t.p)) ∧ Gm.In t.l ∧ Gm.In t.p ∧ ∀ z ∈ t.r, Gm.In z := fun i hil => by
      obtain ⟨v0, y0, n0, c0, t0⟩ := hi i hil 0 f0 rfl
      obtain ⟨v1, y1, n1, c1, t1⟩ := hi i hil 1 f1 rfl
      obtain ⟨v2, y2, n2, c2, t2⟩ := hi i hil 2 f2 rfl
      obtain ⟨z0, e0, _, w0⟩ := DataW.trod_int h0 t0
      obtain ⟨z2, e2, _, w2⟩ := DataW.trod_int h2 t2
      injection e0 with e0; injection e2 with e2
      subst e0 e2
      rcases open_ints h1 hu hcu t1 with ⟨hcs, _⟩ | ⟨x, l, c, zs, hcs, _, hl, hm, hz, hx, hcell, hwz⟩
      · injection hcs with hcs
        subst hcs
        exact ⟨⟨z0, [], z2⟩, ⟨c0, ⟨none, 0, c1, Nat.le_refl _, by omega, RdI.nil _ _ _⟩, c2⟩, bounds_i64 w0, bounds_i64 w2, fun z hz => by simp at hz⟩
      · injection hcs with hcs
        subst hcs
        have hzl : l ≤ zs.length := by rw [hz]; split <;> omega
        refine ⟨⟨z0, zs.take l, z2⟩, ⟨c0, ⟨some x, c, ?_, ?_, by unfold maxLen at hm; omega, fun hn => ?_⟩, c2⟩, bounds_i64 w0, bounds_i64 w2, fun z hz => bounds_i64 (hwz z (List.mem_of_mem_take hz))⟩
        · have hln : (zs.take l).length = l := by rw [List.length_take]; omega
          show w.cell? (a.add (i * 3 + 1)) = some (.slice (some x) (zs.take l).length c)
          rw [hln]; exact c1
        · show (zs.take l).length ≤ c
          rw [List.length_take]; omega
        · have hl0 : 0 < zs.length := by simp at hn; omega
          have ha := plain_addr (hcell 0 hl0) rfl
          refine ⟨x.block, x.off, congrArg some ha, ?_, fun j hj => ?_⟩
          · have := block_lt_of_cell (hcell 0 hl0)
            simpa [Addr.add] using this
          · have hj' : j < l := by simp at hj; omega
            have h1 := hcell j (by omega)
            rw [ha, add_plain] at h1
            rw [h1]
            simp only [List.getD, List.getElem?_take]
            rw [if_pos hj']
    obtain ⟨ts, htl, hts⟩ := list_of len _ hp
    refine ⟨some a, len, cap, ts, rfl, htl.symm, hl, by unfold maxLen at hm; omega, fun hn => ?_, fun x hx => ?_⟩
    · have ha := plain_addr (hts 0 (by omega)).1.1 (Nat.zero_mul 3)
      refine ⟨a.block, a.off, congrArg some ha, ?_, fun i hi => ?_⟩
      · have := block_lt_of_cell (hts 0 (by omega)).1.1
        simpa [Addr.add] using this
      · have := (hts i hi).1
        rw [ha, add_plain, add_plain, add_plain] at this
        exact this
    · obtain ⟨i, hi, rfl⟩ := List.getElem_of_mem hx
      exact (hts i hi).2

theorem open_txs {t e : TypeId} {fuel : Nat} {cs : List Value} {x : DataW H × List MemPlace} (ht : P.underlying t = some (.slice e)) (he : P.underlying e = some .string) (hC : P.cellsOf e = 1) (h : DataW.trod enc P w base spare held fuel t cs = some x) :
    ∃ A n c ns, cs = [.slice A n c] ∧ n = ns.length ∧ n ≤ c ∧ c ≤ 9223372036854775807 ∧ RdN w w.heap.size A ns ∧ ∀ x ∈ ns, K.Tx x := by
  rcases open_strings ht he hC h with ⟨hcs, _⟩ | ⟨x, l, c, ss, hcs, _, hl, hm, hz, _, hcell, hsz⟩
  · exact ⟨none, 0, 0, [], hcs, rfl, Nat.le_refl _, by omega, fun h => absurd rfl h, fun x hx => by simp at hx⟩
  · have hzl : l ≤ ss.length := by rw [hz]; split <;> omega
    have hp : ∀ i, i < l → ∃ t : List Int, w.cell? (x.add i) = some (.string (K.str t)) ∧ K.Tx t := fun i hi => by
      obtain ⟨t, ht, he⟩ := K.txt (ss.getD i ByteArray.empty) (hsz _ (by rw [List.getD_eq_getElem?_getD, List.getElem?_eq_getElem (by omega)]; exact List.getElem_mem _))
      exact ⟨t, by rw [hcell i (by omega), he], ht⟩
    obtain ⟨ns, hnl, hns⟩ := list_of l _ hp
    refine ⟨some x, l, c, ns, hcs, hnl.symm, hl, by unfold maxLen at hm; omega, fun hn => ?_, fun y hy => ?_⟩
    · have ha := plain_addr (hns 0 (by omega)).1 rfl
      refine ⟨x.block, x.off, congrArg some ha, ?_, fun j hj => ?_⟩
      · have := block_lt_of_cell (hns 0 (by omega)).1
        simpa [Addr.add] using this
      · have h1 := (hns j hj).1
        rw [ha, add_plain] at h1
        exact h1
    · obtain ⟨i, hi, rfl⟩ := List.getElem_of_mem hy
      exact (hns i hi).2

/-- A grammar that is handed in is one, and each of its numbers has 64 bits. -/
theorem open_gram {r : Reach} {b0 : Nat} {t e1 e2 e3 u : TypeId} {f0 f1 f2 f3 x0 x1 x2 y0 y1 y2 : Field} {v : Value} {d : DataW H} {p : List MemPlace} (hs : P.underlying t = some (.struct #[f0, f1, f2, f3])) (hone : oneCellFields P #[f0, f1, f2, f3] = true) (hC : P.cellsOf t = 4)
    (hf0 : P.underlying f0.type = some (.slice e1)) (he1 : P.underlying e1 = some (.struct #[x0, x1, x2])) (ho1 : oneCellFields P #[x0, x1, x2] = true) (hc1 : P.cellsOf e1 = 3) (hx0 : P.underlying x0.type = some .string) (hx1 : P.underlying x1.type = some (.int .i64)) (hx2 : P.underlying x2.type = some (.int .i64))
    (hf1 : P.underlying f1.type = some (.slice e2)) (he2 : P.underlying e2 = some .string) (hc2 : P.cellsOf e2 = 1)
    (hf2 : P.underlying f2.type = some (.slice e3)) (he3 : P.underlying e3 = some (.struct #[y0, y1, y2])) (ho3 : oneCellFields P #[y0, y1, y2] = true) (hc3 : P.cellsOf e3 = 3) (hy0 : P.underlying y0.type = some (.int .i64)) (hy1 : P.underlying y1.type = some (.slice u)) (hu : P.underlying u = some (.int .i64)) (hcu : P.cellsOf u = 1) (hy2 : P.underlying y2.type = some (.int .i64))
    (hf3 : P.underlying f3.type = some (.int .i64))
    (hv : Value.okWide P w r b0 t v) (h : DataW.Trod enc P w base spare held t v d p) :
    ∃ G, RdGr w w.heap.size v G ∧ Gm.Fit G := by
  obtain ⟨v0, v1, v2, v3, y0', y1', y2', y3', n, rfl, _, _, k0, k1, k2, k3⟩ := open_agg4 hs hone hC hv h
  obtain ⟨AT, nT, cT, ts, e0, hn0, l0, m0, r0, w0⟩ := open_tms hf0 he1 ho1 hc1 hx0 hx1 hx2 k0
  obtain ⟨AR, nR, cR, rs, e2', hn2, l2, m2, r2, w2⟩ := open_rls hf2 he3 ho3 hc3 hy0 hy1 hu hcu hy2 k2
  obtain ⟨z, e3', _, w3⟩ := DataW.trod_int hf3 k3
  obtain ⟨AN, nN, cN, ns, e1', hn1, l1, m1, r1, w1⟩ := open_txs hf1 he2 hc2 k1
  injection e0 with e0; injection e1' with e1'; injection e2' with e2'; injection e3' with e3'
  subst e0 e1' e2' e3' hn0 hn1 hn2
  exact ⟨⟨ts, ns, rs, z⟩, ⟨AT, cT, AN, cN, AR, cR, rfl, ⟨l0, m0⟩, ⟨l1, m1⟩, ⟨l2, m2⟩, r0, r1, r2⟩, ⟨w0, w1, w2, bounds_i64 w3⟩⟩
end
end Go.Proofs.YtfiijndmlmddbaaGreat

namespace Go.Proofs.YtfiijndmlmddbaaGreat.RowKit
open Go.ChangeShapes Go.WideShapes Go.ChangeAt Go.RowKit

theorem own : ownKnob Tryz.prog.godebug = none := by kernel_rfl
theorem laidOut : laidOutB Tryz.prog = true := by kernel_rfl
end Go.Proofs.YtfiijndmlmddbaaGreat.RowKit
