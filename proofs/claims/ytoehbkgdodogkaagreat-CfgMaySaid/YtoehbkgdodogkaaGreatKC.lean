/- Contracts over this program: whether two grammars are the same; and by the document's own function. -/
import Derived.Test.YtoehbkgdodogkaaGreatKB
import Derived.Test.YtoehbkgdodogkaaGreatCalmT
import Derived.Test.YtoehbkgdodogkaaGreatInts
namespace Go.Proofs.YtoehbkgdodogkaaGreat
set_option maxRecDepth 100000
open Go.RowKit

/-- Are two the same? -/
noncomputable def eqb {α : Type} (a b : α) : Bool := @decide (a = b) (Classical.propDecidable _)
theorem eqb_yes {α : Type} {a b : α} (h : a = b) : eqb a b = true := by unfold eqb; exact @decide_eq_true _ (Classical.propDecidable _) h
theorem eqb_no {α : Type} {a b : α} (h : ¬ a = b) : eqb a b = false := by unfold eqb; exact @decide_eq_false _ (Classical.propDecidable _) h
theorem tm_eqIn (s s' : ByteArray) (a a' b b' : Int) (w : World) : (Op.equalIn 10000 45 (.agg #[.string s, .int .i64 a, .int .i64 b]) (.agg #[.string s', .int .i64 a', .int .i64 b'])).run Tryz.prog w = .ok ((s.toList == s'.toList) && (a == a') && (b == b')) w := by
  have u3 := Tryz.underlying3
  have a3 := Tryz.isAgg3
  have z3 := Tryz.sizeOf3
  have u9 := Tryz.underlying9
  have a9 := Tryz.isAgg9
  have z9 := Tryz.sizeOf9
  have hS : Tryz.prog.underlying 45 = some (.struct (Tryz.prog.fieldsOf 45)) := by kernel_rfl
  rw [show (10000 : Nat) = 9999 + 1 from rfl, run_equalIn_agg w 9999 45 _ _ hS (by kernel_rfl)]
  simp only [Program.fieldsOf, Tryz.underlying45]
  go_simp
  by_cases h0 : s.toList = s'.toList <;> by_cases h1 : a = a' <;> by_cases h2 : b = b' <;> simp [h0, h1, h2]
/-- Are two terminals the same? -/
theorem tm_same {x y : Gm.Tm} (hx : K.Tx x.nm) (hy : K.Tx y.nm) : (((K.str x.nm).toList == (K.str y.nm).toList) && (x.lv == y.lv) && (x.wy == y.wy)) = eqb x y := by
  rw [K.eqB hx hy]
  by_cases h : x = y
  · subst h; rw [eqb_yes rfl]; simp
  · rw [eqb_no h]
    rw [Bool.and_eq_false_iff, Bool.and_eq_false_iff]
    by_cases h1 : x.nm = y.nm
    · by_cases h2 : x.lv = y.lv
      · by_cases h3 : x.wy = y.wy
        · exact absurd (by cases x; cases y; simp_all) h
        · exact .inr (by simpa using h3)
      · exact .inl (.inr (by simpa using h2))
    · exact .inl (.inl (by simpa using h1))

/-- The first k ones are the same. -/
def Alike {α : Type} (xs ys : List α) (k : Nat) : Prop := xs.take k = ys.take k
theorem Alike.zero {α : Type} (xs ys : List α) : Alike xs ys 0 := rfl
theorem Alike.next {α : Type} {xs ys : List α} {k : Nat} (h : Alike xs ys k) (h1 : k < xs.length) (h2 : k < ys.length) (e : xs[k] = ys[k]) : Alike xs ys (k + 1) := by
  unfold Alike at *
  rw [List.take_succ_eq_append_getElem h1, List.take_succ_eq_append_getElem h2, h, e]
theorem Alike.all {α : Type} {xs ys : List α} {k : Nat} (h : Alike xs ys k) (hk : k = xs.length) (hl : xs.length = ys.length) : eqb xs ys = true := by
  unfold Alike at h
  rw [hk, List.take_length, hl, List.take_length] at h
  exact eqb_yes h
theorem unlike {α : Type} {xs ys : List α} {k : Nat} (h1 : k < xs.length) (h2 : k < ys.length) (e : ¬ xs[k] = ys[k]) : eqb xs ys = false := eqb_no fun h => e (by subst h; rfl)
theorem unlike_len {α : Type} {xs ys : List α} (h : ¬ xs.length = ys.length) : eqb xs ys = false := eqb_no fun e => h (by rw [e])

set_option maxHeartbeats 1000000 in
theorem equal_str (A A' : Option Addr) (ca cb B B' : Nat) (xs ys : List (List Int)) (w : World) (hra : RdN w B A xs) (hrb : RdN w B' A' ys) (hx : ∀ x ∈ xs, K.Tx x) (hy : ∀ y ∈ ys, K.Tx y) (hxl : xs.length ≤ 9223372036854775807) :
    Calls Tryz.prog 25 #[.slice A xs.length ca, .slice A' ys.length cb] w fun e w' => e = .returned (.bool (eqb xs ys)) ∧ ∃ n, w' = w.drewN n := by
  by_cases hl : xs.length = ys.length
  · have HL := hide hl
    rw [← hl]
    have hne : ((xs.length : Int) != (xs.length : Int)) = false := by simp
    have HA := hide hra
    have HBB := hide hrb
    have HX := hide hx
    have HY := hide hy
    clear hx hy
    clear hl hra hrb
    go_enter Tryz.func25, Tryz.ntmps25
    go_wp2
    go_loopw [13] (fun vi wr => ∃ (k q : Nat), k ≤ xs.length ∧ vi = .int .i64 k ∧ Alike xs ys k ∧ wr = w.drewN q) (fun vi _ => xs.length - (intOf vi).toNat)
    case atStart => exact ⟨0, 0, Nat.zero_le _, rfl, Alike.zero _ _, rfl⟩
    case round =>
      obtain ⟨k, q, hk, rfl, ht, hwr⟩ := hrel
      have HT := hide ht
      have HW := hide hwr
      clear ht
      by_cases hlt : k < xs.length
      · have hlt2 : k < ys.length := by have := HL.out; omega
        obtain ⟨ga, oa, rfl, _, ha⟩ := HA.out (by omega)
        obtain ⟨gb, ob, rfl, _, hb⟩ := HBB.out (by omega)
        have ca' : wr.cell? ⟨ga, oa + k, none⟩ = some (.string (K.str xs[k])) := by rw [hwr]; exact ha k hlt
        have cb' : wr.cell? ⟨gb, ob + k, none⟩ = some (.string (K.str ys[k])) := by rw [hwr]; exact hb k hlt2
        have E : ((K.str xs[k]).toList == (K.str ys[k]).toList) = eqb xs[k] ys[k] := by
          rw [K.eqB (HX.out _ (List.getElem_mem hlt)) (HY.out _ (List.getElem_mem hlt2))]
          by_cases h : xs[k] = ys[k]
          · rw [eqb_yes h]; simpa using h
          · rw [eqb_no h]; simpa using h
        have E' : ((K.str xs[k]).toList != (K.str ys[k]).toList) = !eqb xs[k] ys[k] := by rw [bne, E]
        have k0 : (0 : Int) ≤ (k : Int) := by omega
        have k1 : (k : Int) < (xs.length : Int) := by omega
        clear ha hb hwr HA HBB
        by_cases hxy : xs[k] = ys[k]
        · have HN : Hid (Alike xs ys (k + 1)) := hide (HT.out.next hlt hlt2 hxy)
          rw [eqb_yes hxy] at E E'
          clear hxy
          generalize K.str xs[k] = x at *
          generalize K.str ys[k] = y at *
          rw [Bool.not_true] at E'
          go_wp2_with fail
          go_quiet (fail)
          go_wp2
          go_roundw
          case rel => exact ⟨k + 1, _, hlt, by go_num, HN.out, by rw [HW.out]; exact World.drewN_drewN _ _ _⟩
          case measure => simp [intOf]; omega
        · have HN : Hid (eqb xs ys = false) := hide (unlike hlt hlt2 hxy)
          rw [eqb_no hxy] at E E'
          clear hxy
          generalize K.str xs[k] = x at *
          generalize K.str ys[k] = y at *
          rw [Bool.not_false] at E'
          go_wp2_with fail
          go_quiet (fail)
          go_wp2
          go_ret
          exact ⟨ret_bool HN.out.symm, _, by rw [HW.out, World.drewN_drewN]⟩
      · obtain rfl : k = xs.length := by omega
        have HE := hide (HT.out.all rfl HL.out)
        subst hwr
        go_wp2
        go_ret
        exact ⟨ret_bool HE.out.symm, _, rfl⟩
  · have HE := hide (unlike_len hl)
    have hne : ((xs.length : Int) != (ys.length : Int)) = true := by simp; omega
    clear hl
    go_enter Tryz.func25, Tryz.ntmps25
    go_wp2
    go_ret
    exact ⟨ret_bool HE.out.symm, 0, rfl⟩

set_option maxHeartbeats 1000000 in
theorem equal_ints (A A' : Option Addr) (ca cb B B' : Nat) (xs ys : List Int) (w : World) (hra : RdI w B A xs) (hrb : RdI w B' A' ys) (hxl : xs.length ≤ 9223372036854775807) :
    Calls Tryz.prog 41 #[.slice A xs.length ca, .slice A' ys.length cb] w fun e w' => e = .returned (.bool (eqb xs ys)) ∧ ∃ n, w' = w.drewN n := by
  by_cases hl : xs.length = ys.length
  · have HL := hide hl
    rw [← hl]
    have hne : ((xs.length : Int) != (xs.length : Int)) = false := by simp
    have HA := hide hra
    have HBB := hide hrb
    clear hl hra hrb
    go_enter Tryz.func41, Tryz.ntmps41
    go_wp2
    go_loopw [13] (fun vi wr => ∃ (k q : Nat), k ≤ xs.length ∧ vi = .int .i64 k ∧ Alike xs ys k ∧ wr = w.drewN q) (fun vi _ => xs.length - (intOf vi).toNat)
    case atStart => exact ⟨0, 0, Nat.zero_le _, rfl, Alike.zero _ _, rfl⟩
    case round =>
      obtain ⟨k, q, hk, rfl, ht, hwr⟩ := hrel
      have HT := hide ht
      have HW := hide hwr
      clear ht
      by_cases hlt : k < xs.length
      · have hlt2 : k < ys.length := by have := HL.out; omega
        obtain ⟨ga, oa, rfl, _, ha⟩ := HA.out (by omega)
        obtain ⟨gb, ob, rfl, _, hb⟩ := HBB.out (by omega)
        have ca' : wr.cell? ⟨ga, oa + k, none⟩ = some (.int .i64 xs[k]) := by rw [hwr, ← L.gd_lt hlt]; exact ha k hlt
        have cb' : wr.cell? ⟨gb, ob + k, none⟩ = some (.int .i64 ys[k]) := by rw [hwr, ← L.gd_lt hlt2]; exact hb k hlt2
        have E : (xs[k] == ys[k]) = eqb xs[k] ys[k] := by
          by_cases h : xs[k] = ys[k]
          · rw [eqb_yes h]; simpa using h
          · rw [eqb_no h]; simpa using h
        have E' : (xs[k] != ys[k]) = !eqb xs[k] ys[k] := by rw [bne, E]
        have k0 : (0 : Int) ≤ (k : Int) := by omega
        have k1 : (k : Int) < (xs.length : Int) := by omega
        clear ha hb hwr HA HBB
        by_cases hxy : xs[k] = ys[k]
        · have HN : Hid (Alike xs ys (k + 1)) := hide (HT.out.next hlt hlt2 hxy)
          rw [eqb_yes hxy] at E E'
          clear hxy
          generalize xs[k] = x at *
          generalize ys[k] = y at *
          rw [Bool.not_true] at E'
          go_wp2_with fail
          go_quiet (fail)
          go_wp2
          go_roundw
          case rel => exact ⟨k + 1, _, hlt, by go_num, HN.out, by rw [HW.out]; exact World.drewN_drewN _ _ _⟩
          case measure => simp [intOf]; omega
        · have HN : Hid (eqb xs ys = false) := hide (unlike hlt hlt2 hxy)
          rw [eqb_no hxy] at E E'
          clear hxy
          generalize xs[k] = x at *
          generalize ys[k] = y at *
          rw [Bool.not_false] at E'
          go_wp2_with fail
          go_quiet (fail)
          go_wp2
          go_ret
          exact ⟨ret_bool HN.out.symm, _, by rw [HW.out, World.drewN_drewN]⟩
      · obtain rfl : k = xs.length := by omega
        have HE := hide (HT.out.all rfl HL.out)
        subst hwr
        go_wp2
        go_ret
        exact ⟨ret_bool HE.out.symm, _, rfl⟩
  · have HE := hide (unlike_len hl)
    have hne : ((xs.length : Int) != (ys.length : Int)) = true := by simp; omega
    clear hl
    go_enter Tryz.func41, Tryz.ntmps41
    go_wp2
    go_ret
    exact ⟨ret_bool HE.out.symm, 0, rfl⟩

set_option maxHeartbeats 1000000 in
theorem equal_tms (A A' : Option Addr) (ca cb B B' : Nat) (xs ys : List Gm.Tm) (w : World) (hra : RdTm w B A xs) (hrb : RdTm w B' A' ys) (hx : ∀ x ∈ xs, K.Tx x.nm) (hy : ∀ y ∈ ys, K.Tx y.nm) (hxl : xs.length ≤ 9223372036854775807) :
    Calls Tryz.prog 24 #[.slice A xs.length ca, .slice A' ys.length cb] w fun e w' => e = .returned (.bool (eqb xs ys)) ∧ ∃ n, w' = w.drewN n := by
  by_cases hl : xs.length = ys.length
  · have HL := hide hl
    rw [← hl]
    have hne : ((xs.length : Int) != (xs.length : Int)) = false := by simp
    have HA := hide hra
    have HBB := hide hrb
    have HX := hide hx
    have HY := hide hy
    clear hx hy
    clear hl hra hrb
    go_enter Tryz.func24, Tryz.ntmps24
    go_wp2
    go_loopw [13] (fun vi wr => ∃ (k q : Nat), k ≤ xs.length ∧ vi = .int .i64 k ∧ Alike xs ys k ∧ wr = w.drewN q) (fun vi _ => xs.length - (intOf vi).toNat)
    case atStart => exact ⟨0, 0, Nat.zero_le _, rfl, Alike.zero _ _, rfl⟩
    case round =>
      obtain ⟨k, q, hk, rfl, ht, hwr⟩ := hrel
      have HT := hide ht
      have HW := hide hwr
      clear ht
      by_cases hlt : k < xs.length
      · have hlt2 : k < ys.length := by have := HL.out; omega
        obtain ⟨ga, oa, rfl, _, ha⟩ := HA.out (by omega)
        obtain ⟨gb, ob, rfl, _, hb⟩ := HBB.out (by omega)
        have ca0 : wr.cell? ⟨ga, oa + k * 3, none⟩ = some (.string (K.str xs[k].nm)) := by rw [hwr]; exact (ha k hlt).1
        have ca1 : wr.cell? ⟨ga, oa + k * 3 + 1, none⟩ = some (.int .i64 xs[k].lv) := by rw [hwr]; exact (ha k hlt).2.1
        have ca2 : wr.cell? ⟨ga, oa + k * 3 + 2, none⟩ = some (.int .i64 xs[k].wy) := by rw [hwr]; exact (ha k hlt).2.2
        have cb0 : wr.cell? ⟨gb, ob + k * 3, none⟩ = some (.string (K.str ys[k].nm)) := by rw [hwr]; exact (hb k hlt2).1
        have cb1 : wr.cell? ⟨gb, ob + k * 3 + 1, none⟩ = some (.int .i64 ys[k].lv) := by rw [hwr]; exact (hb k hlt2).2.1
        have cb2 : wr.cell? ⟨gb, ob + k * 3 + 2, none⟩ = some (.int .i64 ys[k].wy) := by rw [hwr]; exact (hb k hlt2).2.2
        have E0 := tm_same (HX.out _ (List.getElem_mem hlt)) (HY.out _ (List.getElem_mem hlt2))
        have E := fun w => tm_eqIn (K.str xs[k].nm) (K.str ys[k].nm) xs[k].lv ys[k].lv xs[k].wy ys[k].wy w
        rw [E0] at E
        clear E0
        have k0 : (0 : Int) ≤ (k : Int) := by omega
        have k1 : (k : Int) < (xs.length : Int) := by omega
        clear ha hb hwr HA HBB
        by_cases hxy : xs[k] = ys[k]
        · have HN : Hid (Alike xs ys (k + 1)) := hide (HT.out.next hlt hlt2 hxy)
          rw [eqb_yes hxy] at E
          clear hxy
          generalize K.str xs[k].nm = x0 at *
          generalize K.str ys[k].nm = y0 at *
          generalize xs[k].lv = x1 at *
          generalize ys[k].lv = y1 at *
          generalize xs[k].wy = x2 at *
          generalize ys[k].wy = y2 at *
          go_wp2_with fail
          go_quiet (fail)
          go_wp2
          go_roundw
          case rel => exact ⟨k + 1, _, hlt, by go_num, HN.out, by rw [HW.out]; exact World.drewN_drewN _ _ _⟩
          case measure => simp [intOf]; omega
        · have HN : Hid (eqb xs ys = false) := hide (unlike hlt hlt2 hxy)
          rw [eqb_no hxy] at E
          clear hxy
          generalize K.str xs[k].nm = x0 at *
          generalize K.str ys[k].nm = y0 at *
          generalize xs[k].lv = x1 at *
          generalize ys[k].lv = y1 at *
          generalize xs[k].wy = x2 at *
          generalize ys[k].wy = y2 at *
          go_wp2_with fail
          go_quiet (fail)
          go_wp2
          go_ret
          exact ⟨ret_bool HN.out.symm, _, by rw [HW.out, World.drewN_drewN]⟩
      · obtain rfl : k = xs.length := by omega
        have HE := hide (HT.out.all rfl HL.out)
        subst hwr
        go_wp2
        go_ret
        exact ⟨ret_bool HE.out.symm, _, rfl⟩
  · have HE := hide (unlike_len hl)
    have hne : ((xs.length : Int) != (ys.length : Int)) = true := by simp; omega
    clear hl
    go_enter Tryz.func24, Tryz.ntmps24
    go_wp2
    go_ret
    exact ⟨ret_bool HE.out.symm, 0, rfl⟩

/-- A rule's cells: its Right lies at A. -/
def rlV (x : Gm.Rl) (A : Option Addr) (c : Nat) : Value := .agg #[.int .i64 x.l, .slice A x.r.length c, .int .i64 x.p]
theorem rl_same (x y : Gm.Rl) : (eqb x.l y.l && eqb x.r y.r && eqb x.p y.p) = eqb x y := by
  by_cases h : x = y
  · subst h; rw [eqb_yes rfl, eqb_yes rfl, eqb_yes rfl, eqb_yes rfl]; rfl
  · rw [eqb_no h]
    rw [Bool.and_eq_false_iff, Bool.and_eq_false_iff]
    by_cases h1 : x.l = y.l
    · by_cases h2 : x.r = y.r
      · by_cases h3 : x.p = y.p
        · exact absurd (by cases x; cases y; simp_all) h
        · exact .inr (eqb_no h3)
      · exact .inl (.inr (eqb_no h2))
    · exact .inl (.inl (eqb_no h1))
theorem int_eqb (a b : Int) : (a == b) = eqb a b := by
  by_cases h : a = b
  · rw [eqb_yes h]; simpa using h
  · rw [eqb_no h]; simpa using h
theorem below_drewE9 {w w' : World} (h : ∃ n, w' = w.drewN n) : Below w.heap.size w w' := by
  obtain ⟨n, rfl⟩ := h
  exact below_drewN (Below.refl _ _) n
set_option maxHeartbeats 1000000 in
theorem sameRule_any (x y : Gm.Rl) (A A' : Option Addr) (c c' B B' : Nat) (w : World) (hra : RdI w B A x.r) (hrb : RdI w B' A' y.r) (hB : B ≤ w.heap.size) (hB' : B' ≤ w.heap.size) (hxl : x.r.length ≤ 9223372036854775807) :
    Calls Tryz.prog 27 #[rlV x A c, rlV y A' c'] w fun e w' => e = .returned (.bool (eqb x y)) ∧ Below w.heap.size w w' := by
  have HB0 := hide (fun o => ((Below.refl w.heap.size w).alloc (Nat.le_refl _) o))
  have HE := hide (fun (z : World) (h : Below w.heap.size w z) => equal_ints A A' c c' B B' x.r y.r z (hra.keep fun g o hg => h.cell (p := ⟨g, o, none⟩) (Nat.lt_of_lt_of_le hg hB)) (hrb.keep fun g o hg => h.cell (p := ⟨g, o, none⟩) (Nat.lt_of_lt_of_le hg hB')) hxl)
  rw [← rl_same]
  have e1 := int_eqb x.l y.l
  have e2 := int_eqb x.p y.p
  unfold rlV
  clear hra hrb hxl
  generalize x.l = xl at *
  generalize y.l = yl at *
  generalize x.p = xp at *
  generalize y.p = yp at *
  cases q1 : eqb xl yl
  · rw [q1] at e1
    clear q1 e2
    go_enter Tryz.func27, Tryz.ntmps27
    go_wp2
    go_ret
    exact ⟨rfl, (HB0.out _).alloc (by simp) _⟩
  · rw [q1] at e1
    clear q1
    cases q2 : eqb x.r y.r
    · rw [q2] at HE
      clear q2 e2
      go_enter Tryz.func27, Tryz.ntmps27
      go_wp2_with fail
      refine (HE.out _ ((HB0.out _).alloc (by simp) _)).mono ?_; rintro _ w2 ⟨rfl, hd⟩
      have HD := hide ((((HB0.out _).alloc (by simp) _)).trans ((below_drewE9 hd).mono (by simp; omega)))
      clear hd
      go_wp2
      go_ret
      exact ⟨rfl, HD.out⟩
    · rw [q2] at HE
      clear q2
      generalize eqb xp yp = b2 at *
      go_enter Tryz.func27, Tryz.ntmps27
      go_wp2_with fail
      refine (HE.out _ ((HB0.out _).alloc (by simp) _)).mono ?_; rintro _ w2 ⟨rfl, n, rfl⟩
      go_wp2
      go_ret
      exact ⟨ret_bool (by simp), below_drewN ((HB0.out _).alloc (by simp) _) _⟩

set_option maxHeartbeats 2000000 in
theorem eqf_rule (A A' : Option Addr) (ca cb B B' : Nat) (xs ys : List Gm.Rl) (w : World) (hra : RdRl w B A xs) (hrb : RdRl w B' A' ys) (hB : B ≤ w.heap.size) (hB' : B' ≤ w.heap.size) (hxl : xs.length ≤ 9223372036854775807) :
    Calls Tryz.prog 26 #[.slice A xs.length ca, .slice A' ys.length cb, .func (Fn.func 27) #[] #[]] w fun e w' => e = .returned (.bool (eqb xs ys)) ∧ Below w.heap.size w w' := by
  have HB0 := hide (Below.refl w.heap.size w)
  by_cases hl : xs.length = ys.length
  · have HL := hide hl
    rw [← hl]
    have hne : ((xs.length : Int) != (xs.length : Int)) = false := by simp
    have HA := hide hra
    have HBB := hide hrb
    clear hl hra hrb
    go_enter Tryz.func26, Tryz.ntmps26
    go_wp2
    go_loopw [17] (fun vi wr => ∃ (k : Nat), k ≤ xs.length ∧ vi = .int .i64 k ∧ Alike xs ys k ∧ Below w.heap.size w wr) (fun vi _ => xs.length - (intOf vi).toNat)
    case atStart => exact ⟨0, Nat.zero_le _, rfl, Alike.zero _ _, HB0.out⟩
    case round =>
      obtain ⟨k, hk, rfl, ht, hb⟩ := hrel
      have HT := hide ht
      have HB := hide hb
      clear ht
      by_cases hlt : k < xs.length
      · have hlt2 : k < ys.length := by have := HL.out; omega
        obtain ⟨ga, oa, rfl, hga, ha⟩ := HA.out (by omega)
        obtain ⟨gb, ob, rfl, hgb, hb'⟩ := HBB.out (by omega)
        obtain ⟨a0, ⟨Aa, cca, a1, _, _, ra⟩, a2⟩ := ha k hlt
        obtain ⟨b0, ⟨Ab, ccb, b1, _, _, rb⟩, b2⟩ := hb' k hlt2
        have hls : xs[k].r.length ≤ 9223372036854775807 := by omega
        have HS := hide (fun (z : World) (h : Below w.heap.size w z) => sameRule_any xs[k] ys[k] Aa Ab cca ccb B B' z (ra.keep fun g o hg => h.cell (p := ⟨g, o, none⟩) (Nat.lt_of_lt_of_le hg hB)) (rb.keep fun g o hg => h.cell (p := ⟨g, o, none⟩) (Nat.lt_of_lt_of_le hg hB')) (Nat.le_trans hB h.size) (Nat.le_trans hB' h.size) hls)
        have hgas : ga < w.heap.size := by omega
        have hgbs : gb < w.heap.size := by omega
        have hsz := hb.size
        have a0 := (hb.cell (p := ⟨ga, oa + k * 3, none⟩) hgas).trans a0
        have a1 := (hb.cell (p := ⟨ga, oa + k * 3 + 1, none⟩) hgas).trans a1
        have a2 := (hb.cell (p := ⟨ga, oa + k * 3 + 2, none⟩) hgas).trans a2
        have b0 := (hb.cell (p := ⟨gb, ob + k * 3, none⟩) hgbs).trans b0
        have b1 := (hb.cell (p := ⟨gb, ob + k * 3 + 1, none⟩) hgbs).trans b1
        have b2 := (hb.cell (p := ⟨gb, ob + k * 3 + 2, none⟩) hgbs).trans b2
        have hga' : ga < wr.heap.size := by omega
        have hgb' : gb < wr.heap.size := by omega
        have HBA := hide (fun (o1 o2 : Obj) => (hb.alloc hb.size o1).alloc (by have := hb.size; simp; omega) o2)
        have HLT := hide hlt
        have HLT2 := hide hlt2
        unfold rlV at HS
        clear ha hb' hb HA HBB ra rb
        generalize qx : xs[k] = x at *
        generalize qy : ys[k] = y at *
        have QX := hide qx
        have QY := hide qy
        clear qx qy
        by_cases hxy : x = y
        · have HN : Hid (Alike xs ys (k + 1)) := hide (HT.out.next hlt hlt2 (QX.out.trans (hxy.trans QY.out.symm)))
          rw [eqb_yes hxy] at HS
          clear hxy hls
          go_wp2_with fail
          refine (HS.out _ (HBA.out _ _)).mono ?_; rintro _ w2 ⟨rfl, hb2⟩
          have HB2 := hide ((HBA.out _ _).trans (hb2.mono (HBA.out _ _).size))
          clear hb2
          go_wp2
          go_roundw
          case rel => exact ⟨k + 1, HLT.out, by go_num, HN.out, HB2.out⟩
          case measure => have := HLT.out; simp [intOf]; omega
        · have HN : Hid (eqb xs ys = false) := hide (unlike hlt hlt2 (fun e => hxy (QX.out.symm.trans (e.trans QY.out))))
          rw [eqb_no hxy] at HS
          clear hxy hls
          go_wp2_with fail
          refine (HS.out _ (HBA.out _ _)).mono ?_; rintro _ w2 ⟨rfl, hb2⟩
          have HB2 := hide ((HBA.out _ _).trans (hb2.mono (HBA.out _ _).size))
          clear hb2
          go_wp2
          go_ret
          exact ⟨ret_bool HN.out.symm, HB2.out⟩
      · obtain rfl : k = xs.length := by omega
        have HE := hide (HT.out.all rfl HL.out)
        clear hb
        go_wp2
        go_ret
        exact ⟨ret_bool HE.out.symm, HB.out⟩
  · have HE := hide (unlike_len hl)
    have hne : ((xs.length : Int) != (ys.length : Int)) = true := by simp; omega
    clear hl
    go_enter Tryz.func26, Tryz.ntmps26
    go_wp2
    go_ret
    exact ⟨ret_bool HE.out.symm, HB0.out⟩
end Go.Proofs.YtoehbkgdodogkaaGreat

/- Contracts over this program: whether two grammars are the same, by both functions. -/
namespace Go.Proofs.YtoehbkgdodogkaaGreat
set_option maxRecDepth 100000
open Go.RowKit

/-- Are two grammars the same? -/
noncomputable def Gm.same (G H : Gm.Gr) : Bool := eqb G.ts H.ts && eqb G.ns H.ns && eqb G.rs H.rs && eqb G.st H.st
theorem Gm.same_self (G : Gm.Gr) : Gm.same G G = true := by
  unfold Gm.same
  rw [eqb_yes rfl, eqb_yes rfl, eqb_yes rfl, eqb_yes rfl]; rfl

theorem heap_alloc2_0 (w : World) (o o' : Obj) (n : Nat) : (((w.alloc o).alloc o').drewN n).heap[w.heap.size]? = some o := by
  show ((w.alloc o).alloc o').heap[w.heap.size]? = some o
  rw [Below.heap_alloc _ _ _ (by simp)]
  exact heap_alloc_new w o
theorem heap_alloc2_1 (w : World) (o o' : Obj) (n : Nat) : (((w.alloc o).alloc o').drewN n).heap[w.heap.size + 1]? = some o' := by
  have := heap_alloc_new (w.alloc o) o'
  simpa [World.drewN] using this
set_option maxHeartbeats 2000000 in
theorem gsame_any (v u : Value) (G H : Gm.Gr) (B B' : Nat) (w : World) (hg : RdGr w B v G) (hh : RdGr w B' u H) (fg : Gm.Fit G) (fh : Gm.Fit H) (hB : B ≤ w.heap.size) (hB' : B' ≤ w.heap.size) :
    Calls Tryz.prog 13 #[v, u] w fun e w' => e = .returned (.bool (Gm.same G H)) ∧ Below w.heap.size w w' := by
  have HB0 := hide (fun o o' => ((Below.refl w.heap.size w).alloc (Nat.le_refl _) o).alloc (by simp) o')
  obtain ⟨AT, cT, AN, cN, AR, cR, rfl, ⟨hlT, hmT⟩, ⟨hlN, hmN⟩, ⟨hlR, hmR⟩, ht, hn, hr⟩ := hg
  obtain ⟨BT, dT, BN, dN, BR, dR, rfl, _, _, _, gt, gn, gr⟩ := hh
  have H1 := hide (fun (x : World) (h : Below w.heap.size w x) => equal_tms AT BT cT dT B B' G.ts H.ts x (ht.keep fun g o hg => h.cell (p := ⟨g, o, none⟩) (Nat.lt_of_lt_of_le hg hB)) (gt.keep fun g o hg => h.cell (p := ⟨g, o, none⟩) (Nat.lt_of_lt_of_le hg hB')) (fun x hx => (fg.t x hx).1) (fun x hx => (fh.t x hx).1) (by omega))
  have H2 := hide (fun (x : World) (h : Below w.heap.size w x) => equal_str AN BN cN dN B B' G.ns H.ns x (hn.keep fun g o hg => h.cell (p := ⟨g, o, none⟩) (Nat.lt_of_lt_of_le hg hB)) (gn.keep fun g o hg => h.cell (p := ⟨g, o, none⟩) (Nat.lt_of_lt_of_le hg hB')) (fun x hx => fg.n x hx) (fun x hx => fh.n x hx) (by omega))
  have H3 := hide (fun (x : World) (h : Below w.heap.size w x) => eqf_rule AR BR cR dR B B' G.rs H.rs x (hr.keep fun g o hg => h.cell (p := ⟨g, o, none⟩) (Nat.lt_of_lt_of_le hg hB)) (gr.keep fun g o hg => h.cell (p := ⟨g, o, none⟩) (Nat.lt_of_lt_of_le hg hB')) (Nat.le_trans hB h.size) (Nat.le_trans hB' h.size) (by omega))
  have e4 := int_eqb G.st H.st
  unfold Gm.same
  clear ht hn hr gt gn gr hlT hmT hlN hmN hlR hmR fg fh hB hB'
  generalize G.st = st at *
  generalize H.st = st' at *
  cases q1 : eqb G.ts H.ts
  · rw [q1] at H1
    clear q1 e4 H2 H3
    go_enter Tryz.func13, Tryz.ntmps13
    go_wp2_with fail
    refine (H1.out _ (HB0.out _ _)).mono ?_; rintro _ w2 ⟨rfl, hd⟩
    have HD := hide ((HB0.out _ _).trans ((below_drewE9 hd).mono (by simp; omega)))
    clear hd
    go_wp2
    go_ret
    exact ⟨rfl, HD.out⟩
  · rw [q1] at H1
    clear q1
    cases q2 : eqb G.ns H.ns
    · rw [q2] at H2
      clear q2 e4 H3
      go_enter Tryz.func13, Tryz.ntmps13
      go_wp2_with fail
      refine (H1.out _ (HB0.out _ _)).mono ?_; rintro _ w2 ⟨rfl, n1, rfl⟩
      go_wp2_with fail
      refine (H2.out _ (below_drewN (HB0.out _ _) _)).mono ?_; rintro _ w3 ⟨rfl, n2, rfl⟩
      go_wp2
      go_ret
      exact ⟨rfl, below_drewN (HB0.out _ _) _⟩
    · rw [q2] at H2
      clear q2
      cases q3 : eqb G.rs H.rs
      · rw [q3] at H3
        clear q3 e4
        go_enter Tryz.func13, Tryz.ntmps13
        go_wp2_with fail
        refine (H1.out _ (HB0.out _ _)).mono ?_; rintro _ w2 ⟨rfl, n1, rfl⟩
        go_wp2_with fail
        refine (H2.out _ (below_drewN (HB0.out _ _) _)).mono ?_; rintro _ w3 ⟨rfl, n2, rfl⟩
        go_wp2_with fail
        refine (H3.out _ (below_drewN (HB0.out _ _) _)).mono ?_; rintro _ w4 ⟨rfl, hb⟩
        have HD := hide ((below_drewN (HB0.out _ _) _).trans (hb.mono (by simp [World.drewN]; omega)))
        clear hb
        go_wp2
        go_ret
        exact ⟨rfl, HD.out⟩
      · rw [q3] at H3
        clear q3
        generalize eqb st st' = b4 at *
        go_enter Tryz.func13, Tryz.ntmps13
        go_wp2_with fail
        refine (H1.out _ (HB0.out _ _)).mono ?_; rintro _ w2 ⟨rfl, n1, rfl⟩
        go_wp2_with fail
        refine (H2.out _ (below_drewN (HB0.out _ _) _)).mono ?_; rintro _ w3 ⟨rfl, n2, rfl⟩
        go_wp2_with fail
        refine (H3.out _ (below_drewN (HB0.out _ _) _)).mono ?_; rintro _ w4 ⟨rfl, hb⟩
        have HD := hide ((below_drewN (HB0.out _ _) _).trans (hb.mono (by simp [World.drewN]; omega)))
        have b0 := (hb.block w.heap.size (by simp [World.drewN]; omega)).trans (heap_alloc2_0 w _ _ _)
        have b1 := (hb.block (w.heap.size + 1) (by simp [World.drewN])).trans (heap_alloc2_1 w _ _ _)
        have z0 : w.heap.size < w4.heap.size := (Array.getElem?_eq_some_iff.1 b0).1
        have z1 : w.heap.size + 1 < w4.heap.size := (Array.getElem?_eq_some_iff.1 b1).1
        have c0 := cell_of_row w4 _ 3 _ _ _ b0
        have c1 := cell_of_row w4 _ 3 _ _ _ b1
        clear hb b0 b1
        go_wp2
        go_ret
        exact ⟨ret_bool (by simp), HD.out⟩

/-- A world that went on behind one in which two grammars were laid. -/
def Two (w : World) (a b : Array Value) (wr : World) : Prop := Below (w.heap.size + 2) ((w.alloc (.cells a 26)).alloc (.cells b 26)) wr
theorem Two.start (w : World) (a b : Array Value) : Two w a b ((w.alloc (.cells a 26)).alloc (.cells b 26)) := Below.refl _ _
theorem Two.size {w wr : World} {a b : Array Value} (h : Two w a b wr) : w.heap.size + 2 ≤ wr.heap.size := by have := Below.size h; simpa using this
theorem Two.below {w wr : World} {a b : Array Value} (h : Two w a b wr) : Below w.heap.size w wr := (((Below.refl w.heap.size w).alloc (Nat.le_refl _) _).alloc (by simp) _).trans (Below.mono h (by omega))
theorem Two.on {w wr wt : World} {a b : Array Value} (h : Two w a b wr) (k : Below wr.heap.size wr wt) : Two w a b wt := Below.trans h (k.mono h.size)
theorem Two.drewN {w wr : World} {a b : Array Value} (h : Two w a b wr) (n : Nat) : Two w a b (wr.drewN n) := below_drewN h n
theorem Two.drew {w wr : World} {a b : Array Value} (h : Two w a b wr) : Two w a b wr.drew := below_drewN h 1
theorem Two.alloc {w wr : World} {a b : Array Value} (h : Two w a b wr) (o : Obj) : Two w a b (wr.alloc o) := Below.alloc h h.size o
theorem Two.c0 {w wr : World} {a b : Array Value} (h : Two w a b wr) (j : Nat) (u : Value) (hj : a[j]? = some u) : wr.cell? ⟨w.heap.size, j, none⟩ = some u := by
  have b0 := (Below.block h w.heap.size (by omega)).trans (heap_alloc2_0 w _ _ 0)
  exact (cell_of_row wr _ j _ _ _ b0).trans hj
theorem Two.c1 {w wr : World} {a b : Array Value} (h : Two w a b wr) (j : Nat) (u : Value) (hj : b[j]? = some u) : wr.cell? ⟨w.heap.size + 1, j, none⟩ = some u := by
  have b0 := (Below.block h (w.heap.size + 1) (by omega)).trans (heap_alloc2_1 w _ _ 0)
  exact (cell_of_row wr _ j _ _ _ b0).trans hj

set_option maxHeartbeats 8000000 in
theorem rsame_any (v u : Value) (G H : Gm.Gr) (B B' : Nat) (w : World) (hg : RdGr w B v G) (hh : RdGr w B' u H) (fg : Gm.Fit G) (fh : Gm.Fit H) (hB : B ≤ w.heap.size) (hB' : B' ≤ w.heap.size) :
    Calls Tryz.prog 14 #[v, u] w fun e w' => e = .returned (.bool (Gm.same G H)) ∧ Below w.heap.size w w' := by
  have HB0 := hide (fun o o' => ((Below.refl w.heap.size w).alloc (Nat.le_refl _) o).alloc (by simp) o')
  obtain ⟨AT, cT, AN, cN, AR, cR, rfl, ⟨hlT, hmT⟩, ⟨hlN, hmN⟩, ⟨hlR, hmR⟩, ht, hn, hr⟩ := hg
  obtain ⟨BT, dT, BN, dN, BR, dR, rfl, _, _, _, gt, gn, gr⟩ := hh
  by_cases h1 : G.ts.length = H.ts.length
  case neg =>
    have HE : Hid (Gm.same G H = false) := hide (by unfold Gm.same; rw [unlike_len h1]; rfl)
    have h1' : ((G.ts.length : Int) != (H.ts.length : Int)) = true := by simp; omega
    rw [HE.out]
    clear ht hn hr gt gn gr hlT hmT hlN hmN hlR hmR fg fh hB hB' h1
    go_enter Tryz.func14, Tryz.ntmps14
    go_wp2
    go_ret
    exact ⟨rfl, HB0.out _ _⟩
  by_cases h2 : G.ns.length = H.ns.length
  case neg =>
    have HE : Hid (Gm.same G H = false) := hide (by unfold Gm.same; rw [unlike_len h2]; simp)
    have h1' : ((G.ts.length : Int) != (H.ts.length : Int)) = false := by simp; omega
    have h2' : ((G.ns.length : Int) != (H.ns.length : Int)) = true := by simp; omega
    rw [HE.out]
    clear ht hn hr gt gn gr hlT hmT hlN hmN hlR hmR fg fh hB hB' h1 h2
    go_enter Tryz.func14, Tryz.ntmps14
    go_wp2
    go_ret
    exact ⟨rfl, HB0.out _ _⟩
  by_cases h3 : G.rs.length = H.rs.length
  case neg =>
    have HE : Hid (Gm.same G H = false) := hide (by unfold Gm.same; rw [unlike_len h3]; simp)
    have h1' : ((G.ts.length : Int) != (H.ts.length : Int)) = false := by simp; omega
    have h2' : ((G.ns.length : Int) != (H.ns.length : Int)) = false := by simp; omega
    have h3' : ((G.rs.length : Int) != (H.rs.length : Int)) = true := by simp; omega
    rw [HE.out]
    clear ht hn hr gt gn gr hlT hmT hlN hmN hlR hmR fg fh hB hB' h1 h2 h3
    go_enter Tryz.func14, Tryz.ntmps14
    go_wp2
    go_ret
    exact ⟨rfl, HB0.out _ _⟩
  by_cases h4 : G.st = H.st
  case neg =>
    have HE : Hid (Gm.same G H = false) := hide (by unfold Gm.same; rw [eqb_no h4]; simp)
    have h1' : ((G.ts.length : Int) != (H.ts.length : Int)) = false := by simp; omega
    have h2' : ((G.ns.length : Int) != (H.ns.length : Int)) = false := by simp; omega
    have h3' : ((G.rs.length : Int) != (H.rs.length : Int)) = false := by simp; omega
    have h4' : (G.st != H.st) = true := by simpa using h4
    rw [HE.out]
    clear ht hn hr gt gn gr hlT hmT hlN hmN hlR hmR fg fh hB hB' h1 h2 h3 h4
    go_enter Tryz.func14, Tryz.ntmps14
    go_wp2
    go_ret
    exact ⟨rfl, HB0.out _ _⟩
  have h1' : ((G.ts.length : Int) != (H.ts.length : Int)) = false := by simp; omega
  have h2' : ((G.ns.length : Int) != (H.ns.length : Int)) = false := by simp; omega
  have h3' : ((G.rs.length : Int) != (H.rs.length : Int)) = false := by simp; omega
  have h4' : (G.st != H.st) = false := by simpa using h4
  have HES : Hid (Gm.same G H = (eqb G.ts H.ts && eqb G.ns H.ns && eqb G.rs H.rs)) := hide (by unfold Gm.same; rw [eqb_yes h4]; simp)
  have HT := hide ht
  have HN := hide hn
  have HR := hide hr
  have GT := hide gt
  have GN := hide gn
  have GR := hide gr
  have FT := hide (fun i (h : i < G.ts.length) => (fg.t _ (List.getElem_mem h)).1)
  have FT' := hide (fun i (h : i < H.ts.length) => (fh.t _ (List.getElem_mem h)).1)
  have FN := hide (fun i (h : i < G.ns.length) => fg.n _ (List.getElem_mem h))
  have FN' := hide (fun i (h : i < H.ns.length) => fh.n _ (List.getElem_mem h))
  have L1 := hide h1
  have L2 := hide h2
  have L3 := hide h3
  have hs0 := Two.start w #[.slice AT G.ts.length cT, .slice AN G.ns.length cN, .slice AR G.rs.length cR, .int .i64 G.st] #[.slice BT H.ts.length dT, .slice BN H.ns.length dN, .slice BR H.rs.length dR, .int .i64 H.st]
  have HS0 := hide hs0
  clear ht hn hr gt gn gr fg fh h1 h2 h3 h4 HB0 hs0
  go_enter Tryz.func14, Tryz.ntmps14
  go_wp2
  go_loopw [5] (fun vi wr => ∃ (k : Nat), k ≤ G.ts.length ∧ vi = .int .i64 k ∧ Alike G.ts H.ts k ∧ Two w #[.slice AT G.ts.length cT, .slice AN G.ns.length cN, .slice AR G.rs.length cR, .int .i64 G.st] #[.slice BT H.ts.length dT, .slice BN H.ns.length dN, .slice BR H.rs.length dR, .int .i64 H.st] wr) (fun vi _ => G.ts.length - (intOf vi).toNat)
  case atStart => exact ⟨0, Nat.zero_le _, rfl, Alike.zero _ _, HS0.out⟩
  case round =>
    obtain ⟨k, hk, rfl, ha, hb⟩ := hrel
    have HA := hide ha
    have HB := hide hb
    have q00 := hb.c0 0 _ rfl
    have q10 := hb.c1 0 _ rfl
    have q01 := hb.c0 1 _ rfl
    have hz := hb.size
    have hbw := hb.below
    clear ha hb
    by_cases hlt : k < G.ts.length
    · have hlt2 : k < H.ts.length := by have := L1.out; omega
      clear q01
      obtain ⟨ga, oa, rfl, hga, ca⟩ := HT.out (by omega)
      obtain ⟨gb, ob, rfl, hgb, cb⟩ := GT.out (by omega)
      have a0 := (hbw.cell (p := ⟨ga, oa + k * 3, none⟩) (Nat.lt_of_lt_of_le hga hB)).trans (ca k hlt).1
      have a1 := (hbw.cell (p := ⟨ga, oa + k * 3 + 1, none⟩) (Nat.lt_of_lt_of_le hga hB)).trans (ca k hlt).2.1
      have a2 := (hbw.cell (p := ⟨ga, oa + k * 3 + 2, none⟩) (Nat.lt_of_lt_of_le hga hB)).trans (ca k hlt).2.2
      have b0 := (hbw.cell (p := ⟨gb, ob + k * 3, none⟩) (Nat.lt_of_lt_of_le hgb hB')).trans (cb k hlt2).1
      have b1 := (hbw.cell (p := ⟨gb, ob + k * 3 + 1, none⟩) (Nat.lt_of_lt_of_le hgb hB')).trans (cb k hlt2).2.1
      have b2 := (hbw.cell (p := ⟨gb, ob + k * 3 + 2, none⟩) (Nat.lt_of_lt_of_le hgb hB')).trans (cb k hlt2).2.2
      have hE0 := tm_same (FT.out k hlt) (FT'.out k hlt2)
      have E := fun w => tm_eqIn (K.str G.ts[k].nm) (K.str H.ts[k].nm) G.ts[k].lv H.ts[k].lv G.ts[k].wy H.ts[k].wy w
      rw [hE0] at E
      have hga' : ga < wr.heap.size := by omega
      have hgb' : gb < wr.heap.size := by omega
      have kk0 : (0 : Int) ≤ (k : Int) := by omega
      have kk1 : (k : Int) < (G.ts.length : Int) := by omega
      have kk2 : (k : Int) < (H.ts.length : Int) := by omega
      clear hE0 ca cb hbw HT GT FT FT'
      by_cases hxy : G.ts[k] = H.ts[k]
      · have HX : Hid (Alike G.ts H.ts (k + 1)) := hide (HA.out.next hlt hlt2 hxy)
        rw [eqb_yes hxy] at E
        clear hxy
        generalize K.str G.ts[k].nm = x0 at *
        generalize K.str H.ts[k].nm = y0 at *
        generalize G.ts[k].lv = x1 at *
        generalize H.ts[k].lv = y1 at *
        generalize G.ts[k].wy = x2 at *
        generalize H.ts[k].wy = y2 at *
        go_wp2_with fail
        go_quiet (fail)
        go_wp2
        go_roundw
        case rel => exact ⟨k + 1, hlt, by go_num, HX.out, HB.out.drewN _⟩
        case measure => simp [intOf]; omega
      · have HX : Hid (Gm.same G H = false) := hide (by rw [HES.out, unlike hlt hlt2 hxy]; rfl)
        rw [eqb_no hxy] at E
        clear hxy
        generalize K.str G.ts[k].nm = x0 at *
        generalize K.str H.ts[k].nm = y0 at *
        generalize G.ts[k].lv = x1 at *
        generalize H.ts[k].lv = y1 at *
        generalize G.ts[k].wy = x2 at *
        generalize H.ts[k].wy = y2 at *
        go_wp2_with fail
        go_quiet (fail)
        go_wp2
        go_ret
        exact ⟨ret_bool HX.out.symm, (HB.out.drewN _).below⟩
    · obtain rfl : k = G.ts.length := by omega
      have HEE : Hid (Gm.same G H = (eqb G.ns H.ns && eqb G.rs H.rs)) := hide (by rw [HES.out, HA.out.all rfl L1.out]; rfl)
      clear hbw HES hk
      go_wp2
      go_loopw [6] (fun vi wr => ∃ (k : Nat), k ≤ G.ns.length ∧ vi = .int .i64 k ∧ Alike G.ns H.ns k ∧ Two w #[.slice AT G.ts.length cT, .slice AN G.ns.length cN, .slice AR G.rs.length cR, .int .i64 G.st] #[.slice BT H.ts.length dT, .slice BN H.ns.length dN, .slice BR H.rs.length dR, .int .i64 H.st] wr) (fun vi _ => G.ns.length - (intOf vi).toNat)
      case atStart => exact ⟨0, Nat.zero_le _, rfl, Alike.zero _ _, HB.out⟩
      case round =>
        clear q00 q10 q01 hz HB
        obtain ⟨k, hk, rfl, ha, hb⟩ := hrel
        have HA2 := hide ha
        have HB := hide hb
        have q01 := hb.c0 1 _ rfl
        have q11 := hb.c1 1 _ rfl
        have q02 := hb.c0 2 _ rfl
        have hz := hb.size
        have hbw := hb.below
        clear ha hb
        by_cases hlt : k < G.ns.length
        · have hlt2 : k < H.ns.length := by have := L2.out; omega
          clear q02
          obtain ⟨ga, oa, rfl, hga, ca⟩ := HN.out (by omega)
          obtain ⟨gb, ob, rfl, hgb, cb⟩ := GN.out (by omega)
          have a0 := (hbw.cell (p := ⟨ga, oa + k, none⟩) (Nat.lt_of_lt_of_le hga hB)).trans (ca k hlt)
          have b0 := (hbw.cell (p := ⟨gb, ob + k, none⟩) (Nat.lt_of_lt_of_le hgb hB')).trans (cb k hlt2)
          have E := K.eqB (FN.out k hlt) (FN'.out k hlt2)
          have hga' : ga < wr.heap.size := by omega
          have hgb' : gb < wr.heap.size := by omega
          have kk0 : (0 : Int) ≤ (k : Int) := by omega
          have kk1 : (k : Int) < (G.ns.length : Int) := by omega
          have kk2 : (k : Int) < (H.ns.length : Int) := by omega
          clear ca cb hbw HN GN FN FN'
          by_cases hxy : G.ns[k] = H.ns[k]
          · have HX : Hid (Alike G.ns H.ns (k + 1)) := hide (HA2.out.next hlt hlt2 hxy)
            rw [decide_eq_true hxy] at E
            have E' : ((K.str G.ns[k]).toList != (K.str H.ns[k]).toList) = false := by rw [bne, E]; rfl
            clear hxy
            generalize K.str G.ns[k] = x0 at *
            generalize K.str H.ns[k] = y0 at *
            go_wp2_with fail
            go_quiet (fail)
            go_wp2
            go_roundw
            case rel => exact ⟨k + 1, hlt, by go_num, HX.out, HB.out.drewN _⟩
            case measure => simp [intOf]; omega
          · have HX : Hid (Gm.same G H = false) := hide (by rw [HEE.out, unlike hlt hlt2 hxy]; rfl)
            rw [decide_eq_false hxy] at E
            have E' : ((K.str G.ns[k]).toList != (K.str H.ns[k]).toList) = true := by rw [bne, E]; rfl
            clear hxy
            generalize K.str G.ns[k] = x0 at *
            generalize K.str H.ns[k] = y0 at *
            go_wp2_with fail
            go_quiet (fail)
            go_wp2
            go_ret
            exact ⟨ret_bool HX.out.symm, (HB.out.drewN _).below⟩
        · obtain rfl : k = G.ns.length := by omega
          have HE3 : Hid (Gm.same G H = eqb G.rs H.rs) := hide (by rw [HEE.out, HA2.out.all rfl L2.out]; rfl)
          clear hbw HEE hk
          go_wp2
          go_loopw [7] (fun vi wr => ∃ (k : Nat), k ≤ G.rs.length ∧ vi = .int .i64 k ∧ Alike G.rs H.rs k ∧ Two w #[.slice AT G.ts.length cT, .slice AN G.ns.length cN, .slice AR G.rs.length cR, .int .i64 G.st] #[.slice BT H.ts.length dT, .slice BN H.ns.length dN, .slice BR H.rs.length dR, .int .i64 H.st] wr) (fun vi _ => G.rs.length - (intOf vi).toNat)
          case atStart => exact ⟨0, Nat.zero_le _, rfl, Alike.zero _ _, HB.out⟩
          case round =>
            clear q01 q11 q02 hz HB
            obtain ⟨k, hk, rfl, ha, hb⟩ := hrel
            have HA3 := hide ha
            have HB := hide hb
            have q02 := hb.c0 2 _ rfl
            have q12 := hb.c1 2 _ rfl
            have hz := hb.size
            have hbw := hb.below
            clear ha hb
            by_cases hlt : k < G.rs.length
            · have hlt2 : k < H.rs.length := by have := L3.out; omega
              obtain ⟨ga, oa, rfl, hga, ca⟩ := HR.out (by omega)
              obtain ⟨gb, ob, rfl, hgb, cb⟩ := GR.out (by omega)
              obtain ⟨a0, ⟨Aa, cca, a1, _, _, ra⟩, a2⟩ := ca k hlt
              obtain ⟨b0, ⟨Ab, ccb, b1, _, _, rb⟩, b2⟩ := cb k hlt2
              have hls : G.rs[k].r.length ≤ 9223372036854775807 := by omega
              have hls2 : H.rs[k].r.length ≤ 9223372036854775807 := by omega
              have a0 := (hbw.cell (p := ⟨ga, oa + k * 3, none⟩) (Nat.lt_of_lt_of_le hga hB)).trans a0
              have a1 := (hbw.cell (p := ⟨ga, oa + k * 3 + 1, none⟩) (Nat.lt_of_lt_of_le hga hB)).trans a1
              have a2 := (hbw.cell (p := ⟨ga, oa + k * 3 + 2, none⟩) (Nat.lt_of_lt_of_le hga hB)).trans a2
              have b0 := (hbw.cell (p := ⟨gb, ob + k * 3, none⟩) (Nat.lt_of_lt_of_le hgb hB')).trans b0
              have b1 := (hbw.cell (p := ⟨gb, ob + k * 3 + 1, none⟩) (Nat.lt_of_lt_of_le hgb hB')).trans b1
              have b2 := (hbw.cell (p := ⟨gb, ob + k * 3 + 2, none⟩) (Nat.lt_of_lt_of_le hgb hB')).trans b2
              have HS := hide (fun (z : World) (h : Below w.heap.size w z) => ints_any Aa Ab cca ccb G.rs[k].r H.rs[k].r z ((ra.keep fun g o hg => h.cell (p := ⟨g, o, none⟩) (Nat.lt_of_lt_of_le hg hB)).more (Nat.le_trans hB h.size)) ((rb.keep fun g o hg => h.cell (p := ⟨g, o, none⟩) (Nat.lt_of_lt_of_le hg hB')).more (Nat.le_trans hB' h.size)) hls hls2)
              have hga' : ga < wr.heap.size := by omega
              have hgb' : gb < wr.heap.size := by omega
              have kk0 : (0 : Int) ≤ (k : Int) := by omega
              have kk1 : (k : Int) < (G.rs.length : Int) := by omega
              have kk2 : (k : Int) < (H.rs.length : Int) := by omega
              have x8 := hide (hbw)
              have CL := hide (fun (y : Calm.On wr.heap.size wr) (g j : Nat) (u : Value) (hg : g < wr.heap.size) (h : wr.cell? ⟨g, j, none⟩ = some u) => (y.2.cell (p := ⟨g, j, none⟩) hg).trans h)
              have R0 := fun y : Calm.On wr.heap.size wr => CL.out y _ _ _ (by omega) q02
              have R1 := fun y : Calm.On wr.heap.size wr => CL.out y _ _ _ (by omega) q12
              have A0 := fun y : Calm.On wr.heap.size wr => CL.out y _ _ _ hga' a0
              have A1 := fun y : Calm.On wr.heap.size wr => CL.out y _ _ _ hga' a1
              have A2 := fun y : Calm.On wr.heap.size wr => CL.out y _ _ _ hga' a2
              have B0 := fun y : Calm.On wr.heap.size wr => CL.out y _ _ _ hgb' b0
              have B1 := fun y : Calm.On wr.heap.size wr => CL.out y _ _ _ hgb' b1
              have B2 := fun y : Calm.On wr.heap.size wr => CL.out y _ _ _ hgb' b2
              have HZ3 := hide (fun o o' : Obj => below_drewN (((Below.refl wr.heap.size wr).alloc (Nat.le_refl _) o).alloc (by simp) o') 1)
              have HZ1 := hide (fun o : Obj => (below_drewN (Below.refl wr.heap.size wr) 1).alloc (Nat.le_refl _) o)
              have HZ2 := hide (fun o o' : Obj => ((below_drewN (Below.refl wr.heap.size wr) 1).alloc (Nat.le_refl _) o).alloc (by simp) o')
              go_wp2_with fail
              refine Calm.region_tree (fun x => ∃ y : Calm.On wr.heap.size wr, x = y.1) (.two [0, 1, 2, 3, 4, 5, 6, 7, 8, 9] 10 (.one [] 11 (.one [] 12 (.one [] 13 (.fin [])))) 11 (.one [] 10 (.one [] 12 (.one [] 13 (.fin []))))) (by kernel_rfl) (by kernel_rfl) (fun _ _ d _ _ h => by cases d <;> exact h) ⟨⟨wr.drew, below_drewN (Below.refl _ _) 1⟩, rfl⟩ ?_
              clear q02 q12 a0 a1 a2 b0 b1 b2
              simp only [Calm.wpT, Calm.wpSt, Calm.pickOps, List.getElem?_toArray, List.getElem?_cons_zero, List.getElem?_cons_succ]
              repeat (go_big_quiet_step (fail))
              refine wpQuiet_nil ?_
              clear R0 R1 A0 A1 A2 B0 B1 B2
              refine ⟨?_, ?_⟩
              · intro KK hKK
                rw [if_pos (by rfl)]
                go_wp2_with fail
                refine hKK _ _ ⟨⟨_, HZ1.out _⟩, rfl⟩ (fun x => ∃ y : Calm.On wr.heap.size wr, x = y.1) (fun _ h => h) ⟨⟨_, HZ1.out _⟩, rfl⟩ ?_
                refine wpQuiet_nil ?_
                intro KK hKK
                rw [if_pos (by rfl)]
                go_wp2_with fail
                refine hKK _ _ ⟨⟨_, HZ2.out _ _⟩, rfl⟩ (fun x => ∃ y : Calm.On wr.heap.size wr, x = y.1) (fun _ h => h) ⟨⟨_, HZ2.out _ _⟩, rfl⟩ ?_
                refine wpQuiet_nil ?_
                intro KK hKK
                rw [if_pos (by rfl)]
                go_wp2_with fail
                refine hKK _ _ ⟨⟨_, HZ3.out _ _⟩, rfl⟩ (fun x => ∃ y : Calm.On wr.heap.size wr, x = y.1) (fun _ h => h) ⟨⟨_, HZ3.out _ _⟩, rfl⟩ ?_
                refine wpQuiet_nil ?_
                intro KK hKK
                rw [if_pos (by rfl)]
                go_wp2_with fail
                refine hKK _ _ ⟨⟨_, HZ3.out _ _⟩, rfl⟩ (fun x => ∃ y : Calm.On wr.heap.size wr, x = y.1) (fun _ h => h) ⟨⟨_, HZ3.out _ _⟩, rfl⟩ ?_
                refine wpQuiet_nil ?_
                have HBZ := hide (fun o o' : Obj => (HB.out.on (HZ3.out o o')))
                have HBN := hide (fun (o o' : Obj) (n : Nat) => (HB.out.on (below_drewN (((Below.refl wr.heap.size wr).alloc (Nat.le_refl _) o).alloc (by simp) o') n)))
                clear hKK
                generalize qx : G.rs[k] = x at *
                generalize qy : H.rs[k] = y at *
                have QX := hide qx
                have QY := hide qy
                clear qx qy
                by_cases hx1 : x.l = y.l
                case neg =>
                  have HX : Hid (Gm.same G H = false) := hide (by rw [HE3.out, unlike hlt hlt2 (fun e => hx1 (by rw [← QX.out, ← QY.out]; exact congrArg Gm.Rl.l e))])
                  have e1 : (x.l != y.l) = true := by simpa using hx1
                  clear hx1
                  go_wp2_with fail
                  go_ret
                  exact ⟨ret_bool HX.out.symm, (HBZ.out _ _).below⟩
                have e1 : (x.l != y.l) = false := by simpa using hx1
                by_cases hx2 : x.p = y.p
                case neg =>
                  have HX : Hid (Gm.same G H = false) := hide (by rw [HE3.out, unlike hlt hlt2 (fun e => hx2 (by rw [← QX.out, ← QY.out]; exact congrArg Gm.Rl.p e))])
                  have e2 : (x.p != y.p) = true := by simpa using hx2
                  clear hx1 hx2
                  go_wp2_with fail
                  go_ret
                  exact ⟨ret_bool HX.out.symm, (HBZ.out _ _).below⟩
                have e2 : (x.p != y.p) = false := by simpa using hx2
                by_cases hx3 : x.r = y.r
                · have HX : Hid (Alike G.rs H.rs (k + 1)) := hide (HA3.out.next hlt hlt2 (QX.out.trans (Eq.trans (by cases x; cases y; simp_all) QY.out.symm)))
                  rw [decide_eq_true hx3] at HS
                  clear hx1 hx2 hx3
                  go_wp2_with fail
                  refine (HS.out _ (HBZ.out _ _).below).mono ?_; rintro _ w6 ⟨rfl, n6, rfl⟩
                  go_wp2
                  go_roundw
                  case rel => exact ⟨k + 1, hlt, by go_num, HX.out, HBN.out _ _ _⟩
                  case measure => simp [intOf]; omega
                · have HX : Hid (Gm.same G H = false) := hide (by rw [HE3.out, unlike hlt hlt2 (fun e => hx3 (by rw [← QX.out, ← QY.out]; exact congrArg Gm.Rl.r e))])
                  rw [decide_eq_false hx3] at HS
                  clear hx1 hx2 hx3
                  go_wp2_with fail
                  refine (HS.out _ (HBZ.out _ _).below).mono ?_; rintro _ w6 ⟨rfl, n6, rfl⟩
                  go_wp2
                  go_ret
                  exact ⟨ret_bool HX.out.symm, (HBN.out _ _ _).below⟩
              · intro KK hKK
                rw [if_pos (by rfl)]
                go_wp2_with fail
                refine hKK _ _ ⟨⟨_, HZ1.out _⟩, rfl⟩ (fun x => ∃ y : Calm.On wr.heap.size wr, x = y.1) (fun _ h => h) ⟨⟨_, HZ1.out _⟩, rfl⟩ ?_
                refine wpQuiet_nil ?_
                intro KK hKK
                rw [if_pos (by rfl)]
                go_wp2_with fail
                refine hKK _ _ ⟨⟨_, HZ2.out _ _⟩, rfl⟩ (fun x => ∃ y : Calm.On wr.heap.size wr, x = y.1) (fun _ h => h) ⟨⟨_, HZ2.out _ _⟩, rfl⟩ ?_
                refine wpQuiet_nil ?_
                intro KK hKK
                rw [if_pos (by rfl)]
                go_wp2_with fail
                refine hKK _ _ ⟨⟨_, HZ3.out _ _⟩, rfl⟩ (fun x => ∃ y : Calm.On wr.heap.size wr, x = y.1) (fun _ h => h) ⟨⟨_, HZ3.out _ _⟩, rfl⟩ ?_
                refine wpQuiet_nil ?_
                intro KK hKK
                rw [if_pos (by rfl)]
                go_wp2_with fail
                refine hKK _ _ ⟨⟨_, HZ3.out _ _⟩, rfl⟩ (fun x => ∃ y : Calm.On wr.heap.size wr, x = y.1) (fun _ h => h) ⟨⟨_, HZ3.out _ _⟩, rfl⟩ ?_
                refine wpQuiet_nil ?_
                have HBZ := hide (fun o o' : Obj => (HB.out.on (HZ3.out o o')))
                have HBN := hide (fun (o o' : Obj) (n : Nat) => (HB.out.on (below_drewN (((Below.refl wr.heap.size wr).alloc (Nat.le_refl _) o).alloc (by simp) o') n)))
                clear hKK
                generalize qx : G.rs[k] = x at *
                generalize qy : H.rs[k] = y at *
                have QX := hide qx
                have QY := hide qy
                clear qx qy
                by_cases hx1 : x.l = y.l
                case neg =>
                  have HX : Hid (Gm.same G H = false) := hide (by rw [HE3.out, unlike hlt hlt2 (fun e => hx1 (by rw [← QX.out, ← QY.out]; exact congrArg Gm.Rl.l e))])
                  have e1 : (x.l != y.l) = true := by simpa using hx1
                  clear hx1
                  go_wp2_with fail
                  go_ret
                  exact ⟨ret_bool HX.out.symm, (HBZ.out _ _).below⟩
                have e1 : (x.l != y.l) = false := by simpa using hx1
                by_cases hx2 : x.p = y.p
                case neg =>
                  have HX : Hid (Gm.same G H = false) := hide (by rw [HE3.out, unlike hlt hlt2 (fun e => hx2 (by rw [← QX.out, ← QY.out]; exact congrArg Gm.Rl.p e))])
                  have e2 : (x.p != y.p) = true := by simpa using hx2
                  clear hx1 hx2
                  go_wp2_with fail
                  go_ret
                  exact ⟨ret_bool HX.out.symm, (HBZ.out _ _).below⟩
                have e2 : (x.p != y.p) = false := by simpa using hx2
                by_cases hx3 : x.r = y.r
                · have HX : Hid (Alike G.rs H.rs (k + 1)) := hide (HA3.out.next hlt hlt2 (QX.out.trans (Eq.trans (by cases x; cases y; simp_all) QY.out.symm)))
                  rw [decide_eq_true hx3] at HS
                  clear hx1 hx2 hx3
                  go_wp2_with fail
                  refine (HS.out _ (HBZ.out _ _).below).mono ?_; rintro _ w6 ⟨rfl, n6, rfl⟩
                  go_wp2
                  go_roundw
                  case rel => exact ⟨k + 1, hlt, by go_num, HX.out, HBN.out _ _ _⟩
                  case measure => simp [intOf]; omega
                · have HX : Hid (Gm.same G H = false) := hide (by rw [HE3.out, unlike hlt hlt2 (fun e => hx3 (by rw [← QX.out, ← QY.out]; exact congrArg Gm.Rl.r e))])
                  rw [decide_eq_false hx3] at HS
                  clear hx1 hx2 hx3
                  go_wp2_with fail
                  refine (HS.out _ (HBZ.out _ _).below).mono ?_; rintro _ w6 ⟨rfl, n6, rfl⟩
                  go_wp2
                  go_ret
                  exact ⟨ret_bool HX.out.symm, (HBN.out _ _ _).below⟩
            · obtain rfl : k = G.rs.length := by omega
              have HX : Hid (Gm.same G H = true) := hide (by rw [HE3.out, HA3.out.all rfl L3.out])
              go_wp2
              go_ret
              exact ⟨ret_bool HX.out.symm, HB.out.below⟩
end Go.Proofs.YtoehbkgdodogkaaGreat
