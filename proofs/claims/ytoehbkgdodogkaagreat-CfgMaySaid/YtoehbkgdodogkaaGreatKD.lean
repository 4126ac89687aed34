/- Contracts over this program: whether a grammar may be, by the document's own functions. -/
import Derived.Test.YtoehbkgdodogkaaGreatKB
import Derived.Test.YtoehbkgdodogkaaGreatLexRef
import Derived.Test.YtoehbkgdodogkaaGreatCalm
import Derived.Test.YtoehbkgdodogkaaGreatCalmT
namespace Go.Proofs.YtoehbkgdodogkaaGreat
set_option maxRecDepth 100000
open Go.RowKit

/-- A world that went on behind one in which a grammar was laid. -/
def One (w : World) (a : Array Value) (wr : World) : Prop := Below (w.heap.size + 1) (w.alloc (.cells a 26)) wr
theorem One.start (w : World) (a : Array Value) : One w a (w.alloc (.cells a 26)) := Below.refl _ _
theorem One.size {w wr : World} {a : Array Value} (h : One w a wr) : w.heap.size + 1 ≤ wr.heap.size := by have := Below.size h; simpa using this
theorem One.below {w wr : World} {a : Array Value} (h : One w a wr) : Below w.heap.size w wr := ((Below.refl w.heap.size w).alloc (Nat.le_refl _) _).trans (Below.mono h (by omega))
theorem One.on {w wr wt : World} {a : Array Value} (h : One w a wr) (k : Below wr.heap.size wr wt) : One w a wt := Below.trans h (k.mono h.size)
theorem One.drewN {w wr : World} {a : Array Value} (h : One w a wr) (n : Nat) : One w a (wr.drewN n) := below_drewN h n
theorem One.alloc {w wr : World} {a : Array Value} (h : One w a wr) (o : Obj) : One w a (wr.alloc o) := Below.alloc h h.size o
theorem One.c {w wr : World} {a : Array Value} (h : One w a wr) (j : Nat) (u : Value) (hj : a[j]? = some u) : wr.cell? ⟨w.heap.size, j, none⟩ = some u := by
  have b0 := (Below.block h w.heap.size (by omega)).trans (heap_alloc_new w _)
  exact (cell_of_row wr _ j _ _ _ b0).trans hj

theorem rnamed_any (s : List Int) (hs : K.Tx s) (w : World) :
    Calls Tryz.prog 36 #[.string (K.str s)] w fun e w' => e = .returned (.bool (Gm.named s)) ∧ w = w' := by
  have HN := hide (fun w => rname_any s hs.1 w)
  have HL := hide (fun w => rlit_any s hs.1 w)
  unfold Gm.named
  clear hs
  cases q : T.isName s
  · rw [q] at HN
    clear q
    generalize T.isLit s = b at *
    go_enter Tryz.func36, Tryz.ntmps36
    go_wp2_with fail
    refine (HN.out _).mono ?_; rintro _ _ ⟨rfl, rfl⟩
    go_wp2_with fail
    refine (HL.out _).mono ?_; rintro _ _ ⟨rfl, rfl⟩
    go_wp2
    go_ret
    exact ⟨ret_bool (by simp), rfl⟩
  · rw [q] at HN
    clear q
    go_enter Tryz.func36, Tryz.ntmps36
    go_wp2_with fail
    refine (HN.out _).mono ?_; rintro _ _ ⟨rfl, rfl⟩
    go_wp2
    go_ret
    exact ⟨ret_bool (by simp), rfl⟩

theorem lev_drop {n : Int} {ts : List Gm.Tm} {k : Nat} (h : k < ts.length) (z : Int) : Gm.lev n (ts.drop k) z = if ts[k].lv ≠ n then Gm.lev n (ts.drop (k + 1)) z else if z ≠ 0 ∧ z ≠ ts[k].wy then false else Gm.lev n (ts.drop (k + 1)) ts[k].wy := by
  rw [List.drop_eq_getElem_cons h, Gm.lev]
theorem lev_end {n : Int} {ts : List Gm.Tm} {k : Nat} (h : ts.length ≤ k) (z : Int) : Gm.lev n (ts.drop k) z = (z != 0) := by
  rw [List.drop_eq_nil_of_le h, Gm.lev]

set_option maxHeartbeats 2000000 in
theorem level_any (v : Value) (G : Gm.Gr) (n : Int) (B : Nat) (w : World) (hg : RdGr w B v G) (hB : B ≤ w.heap.size) :
    Calls Tryz.prog 38 #[v, .int .i64 n] w fun e w' => e = .returned (.bool (Gm.lev n G.ts 0)) ∧ Below w.heap.size w w' := by
  obtain ⟨AT, cT, AN, cN, AR, cR, rfl, ⟨hl, hm⟩, _, _, ht, _, _⟩ := hg
  have HT := hide ht
  have HS0 := hide (One.start w #[.slice AT G.ts.length cT, .slice AN G.ns.length cN, .slice AR G.rs.length cR, .int .i64 G.st])
  clear ht
  go_enter Tryz.func38, Tryz.ntmps38
  go_wp2
  go_loopw [5, 6] (fun vw vi wr => ∃ (k : Nat) (z : Int), k ≤ G.ts.length ∧ vi = .int .i64 k ∧ vw = .int .i64 z ∧ Hid (Gm.lev n G.ts 0 = Gm.lev n (G.ts.drop k) z) ∧ One w #[.slice AT G.ts.length cT, .slice AN G.ns.length cN, .slice AR G.rs.length cR, .int .i64 G.st] wr) (fun _ vi _ => G.ts.length - (intOf vi).toNat)
  case atStart => exact ⟨0, 0, Nat.zero_le _, rfl, rfl, hide rfl, HS0.out⟩
  case round =>
    obtain ⟨k, z, hk, rfl, rfl, HE, hb⟩ := hrel
    have HB := hide hb
    have q0 := hb.c 0 _ rfl
    have hz : w.heap.size < wr.heap.size := hb.size
    have hbw := hb.below
    clear hb
    by_cases hlt : k < G.ts.length
    · obtain ⟨g, o, rfl, hgb, hc⟩ := HT.out (by omega)
      have k0 := (hbw.cell (p := ⟨g, o + k * 3, none⟩) (Nat.lt_of_lt_of_le hgb hB)).trans (hc k hlt).1
      have k1 := (hbw.cell (p := ⟨g, o + k * 3 + 1, none⟩) (Nat.lt_of_lt_of_le hgb hB)).trans (hc k hlt).2.1
      have k2 := (hbw.cell (p := ⟨g, o + k * 3 + 2, none⟩) (Nat.lt_of_lt_of_le hgb hB)).trans (hc k hlt).2.2
      have hgs : g < wr.heap.size := by omega
      have HN := hide (HE.out.trans (lev_drop hlt z))
      clear hc hbw
      generalize G.ts[k].nm = nm at *
      generalize G.ts[k].lv = lv at *
      generalize G.ts[k].wy = wy at *
      by_cases hx : lv = n
      · subst hx
        have hx' : (lv != lv) = false := by simp
        by_cases hy : z = 0
        · have HR := hide (HN.out.trans ((if_neg (by simp)).trans (if_neg (by simp [hy]))))
          subst hy
          go_wp2
          go_roundw
          case rel => exact ⟨k + 1, wy, by omega, by go_num, rfl, HR, HB.out.alloc _⟩
          case measure => simp [intOf]; omega
        · have hy' : (z != 0) = true := by simpa using hy
          by_cases hq : z = wy
          · have HR := hide (HN.out.trans ((if_neg (by simp)).trans (if_neg (by simp [hq]))))
            have hq' : (z != wy) = false := by simpa using hq
            clear hq hy
            go_wp2
            go_roundw
            case rel => exact ⟨k + 1, wy, by omega, by go_num, rfl, HR, HB.out.alloc _⟩
            case measure => simp [intOf]; omega
          · have HR := hide (HN.out.trans ((if_neg (by simp)).trans (if_pos ⟨hy, hq⟩)))
            have hq' : (z != wy) = true := by simpa using hq
            clear hq hy
            go_wp2
            go_ret
            exact ⟨ret_bool HR.out.symm, (HB.out.alloc _).below⟩
      · have HR := hide (HN.out.trans (if_pos hx))
        have hx' : (lv != n) = true := by simpa using hx
        clear hx
        go_wp2
        go_roundw
        case rel => exact ⟨k + 1, z, by omega, by go_num, rfl, HR, HB.out.alloc _⟩
        case measure => simp [intOf]; omega
    · obtain rfl : k = G.ts.length := by omega
      have HR := hide (HE.out.trans (lev_end (Nat.le_refl _) z))
      clear hbw
      go_wp2
      go_ret
      exact ⟨ret_bool HR.out.symm, HB.out.below⟩

theorem terms_no {ts : List Gm.Tm} {k : Nat} (h : k < ts.length) (hn : Gm.term1 ts k ts[k] = false) : Gm.terms ts = false := by
  unfold Gm.terms
  rw [Bool.and_eq_false_iff]
  exact .inr (decide_eq_false fun q => by have := q k h; rw [hn] at this; cases this)
theorem terms_long {ts : List Gm.Tm} (h : 24 < ts.length) : Gm.terms ts = false := by
  unfold Gm.terms
  rw [decide_eq_false (by omega)]; rfl
/-- All levels from 1 to below j may be. -/
def LvOk (ts : List Gm.Tm) (j : Nat) : Prop := ∀ m, m + 1 < j → Gm.lev ((m + 1 : Nat) : Int) ts 0 = true
/-- The first k terminals may be. -/
def TmOk (ts : List Gm.Tm) (k : Nat) : Prop := ∀ i (h : i < ts.length), i < k → Gm.term1 ts i ts[i] = true
theorem TmOk.next {ts : List Gm.Tm} {k : Nat} (h : TmOk ts k) (hk : k < ts.length) (hn : Gm.term1 ts k ts[k] = true) : TmOk ts (k + 1) := fun i hi hik => by
  rcases Nat.lt_or_ge i k with q | q
  · exact h i hi q
  · obtain rfl : i = k := by omega
    exact hn
theorem TmOk.all {ts : List Gm.Tm} (h : TmOk ts ts.length) (hl : ts.length ≤ 24) : Gm.terms ts = true := by
  unfold Gm.terms
  rw [decide_eq_true hl, decide_eq_true fun i hi => h i hi hi]; rfl

set_option maxHeartbeats 8000000 in
theorem rterms_any (v : Value) (G : Gm.Gr) (B : Nat) (w : World) (hg : RdGr w B v G) (hf : Gm.Fit G) (hB : B ≤ w.heap.size) :
    Calls Tryz.prog 21 #[v] w fun e w' => e = .returned (.bool (Gm.terms G.ts)) ∧ Below w.heap.size w w' := by
  have HG := hide hg
  obtain ⟨AT, cT, AN, cN, AR, cR, rfl, ⟨hl, hm⟩, _, _, ht, _, _⟩ := hg
  have HT := hide ht
  have HF := hide hf
  have HS0 := hide (One.start w #[.slice AT G.ts.length cT, .slice AN G.ns.length cN, .slice AR G.rs.length cR, .int .i64 G.st])
  clear ht hf
  by_cases h24 : 24 < G.ts.length
  · rw [terms_long h24]
    go_enter Tryz.func21, Tryz.ntmps21
    go_wp2
    go_ret
    exact ⟨rfl, HS0.out.below⟩
  go_enter Tryz.func21, Tryz.ntmps21
  go_wp2
  go_loopw [3] (fun vi wr => ∃ (k : Nat), k ≤ G.ts.length ∧ vi = .int .i64 k ∧ TmOk G.ts k ∧ One w #[.slice AT G.ts.length cT, .slice AN G.ns.length cN, .slice AR G.rs.length cR, .int .i64 G.st] wr) (fun vi _ => G.ts.length - (intOf vi).toNat)
  case atStart => exact ⟨0, Nat.zero_le _, rfl, fun _ _ h => by omega, HS0.out⟩
  case round =>
    obtain ⟨k, hk, rfl, HE, hb⟩ := hrel
    have HE := hide HE
    have HB := hide hb
    have q0 := hb.c 0 _ rfl
    have q1 := hb.c 1 _ rfl
    have q2 := hb.c 2 _ rfl
    have q3 := hb.c 3 _ rfl
    have hz : w.heap.size < wr.heap.size := hb.size
    have hbw := hb.below
    clear hb
    by_cases hlt : k < G.ts.length
    · obtain ⟨g, o, rfl, hgb, hc⟩ := HT.out (by omega)
      have k0 := (hbw.cell (p := ⟨g, o + k * 3, none⟩) (Nat.lt_of_lt_of_le hgb hB)).trans (hc k hlt).1
      have k1 := (hbw.cell (p := ⟨g, o + k * 3 + 1, none⟩) (Nat.lt_of_lt_of_le hgb hB)).trans (hc k hlt).2.1
      have k2 := (hbw.cell (p := ⟨g, o + k * 3 + 2, none⟩) (Nat.lt_of_lt_of_le hgb hB)).trans (hc k hlt).2.2
      have hgs : g < wr.heap.size := by omega
      have hft := HF.out.t _ (List.getElem_mem hlt)
      have HNM := hide (fun x => rnamed_any _ hft.1 x)
      have HTM := hide (fun (x : World) (h : One w #[.slice (some ⟨g, o, none⟩) G.ts.length cT, .slice AN G.ns.length cN, .slice AR G.rs.length cR, .int .i64 G.st] x) => term_any _ G _ B x (HG.out.below h.below hB) HF.out hft.1 (Nat.le_trans hB h.below.size))
      have HLV := hide (fun (n : Int) (x : World) (h : One w #[.slice (some ⟨g, o, none⟩) G.ts.length cT, .slice AN G.ns.length cN, .slice AR G.rs.length cR, .int .i64 G.st] x) => level_any _ G n B x (HG.out.below h.below hB) (Nat.le_trans hB h.below.size))
      obtain ⟨t, qt⟩ : ∃ t, t = G.ts[k] := ⟨_, rfl⟩
      rw [← qt] at k0 k1 k2 hft HNM HTM
      have QT := hide qt.symm
      have hlb := hft.2.1
      unfold Gm.In at hlb
      clear hc hbw qt hft
      unfold Gm.term at HTM
      obtain ⟨nm, lv, wy⟩ := t
      simp only at k0 k1 k2 HNM HTM hlb
      by_cases c0 : Gm.named nm = true
      case neg =>
        have c0' := Bool.eq_false_iff.2 c0
        have HX : Hid (Gm.terms G.ts = false) := hide (terms_no hlt (by rw [QT.out]; unfold Gm.term1; simp [c0']))
        rw [c0'] at HNM
        clear c0 c0'
        go_wp2_with fail
        refine (HNM.out _).mono ?_; rintro _ _ ⟨rfl, rfl⟩
        go_wp2
        go_ret
        exact ⟨ret_bool HX.out.symm, (HB.out.alloc _).below⟩
      rw [c0] at HNM
      have C0 := hide c0
      clear c0
      by_cases c1 : Gm.find (Gm.names G.ts) nm = (k : Int)
      case neg =>
        have HX : Hid (Gm.terms G.ts = false) := hide (terms_no hlt (by rw [QT.out]; unfold Gm.term1; simp [c1]))
        have f1 : (Gm.find (Gm.names G.ts) nm != (k : Int)) = true := by simpa using c1
        clear c1
        go_wp2_with fail
        refine (HNM.out _).mono ?_; rintro _ _ ⟨rfl, rfl⟩
        go_wp2_with fail
        refine (HTM.out _ (HB.out.alloc _)).mono ?_; rintro _ w2 ⟨rfl, hb2⟩
        have HB2 := hide ((HB.out.alloc _).on hb2)
        have hb2b := (hb2.block wr.heap.size (by simp)).trans (heap_alloc_new wr _)
        have z2 : wr.heap.size < w2.heap.size := (Array.getElem?_eq_some_iff.1 hb2b).1
        have d0 := cell_of_row w2 _ 0 _ _ _ hb2b
        have d1 := cell_of_row w2 _ 1 _ _ _ hb2b
        have d2 := cell_of_row w2 _ 2 _ _ _ hb2b
        have q0' := HB2.out.c 0 _ rfl
        clear hb2 hb2b
        go_wp2
        go_ret
        exact ⟨ret_bool HX.out.symm, HB2.out.below⟩
      have f1 : (Gm.find (Gm.names G.ts) nm != (k : Int)) = false := by simpa using c1
      have C1 := hide c1
      clear c1
      by_cases c2 : 0 ≤ lv
      case neg =>
        have HX : Hid (Gm.terms G.ts = false) := hide (terms_no hlt (by rw [QT.out]; unfold Gm.term1; simp [c2]))
        have f2 := Int.not_le.1 c2
        clear c2
        go_wp2_with fail
        refine (HNM.out _).mono ?_; rintro _ _ ⟨rfl, rfl⟩
        go_wp2_with fail
        refine (HTM.out _ (HB.out.alloc _)).mono ?_; rintro _ w2 ⟨rfl, hb2⟩
        have HB2 := hide ((HB.out.alloc _).on hb2)
        have hb2b := (hb2.block wr.heap.size (by simp)).trans (heap_alloc_new wr _)
        have z2 : wr.heap.size < w2.heap.size := (Array.getElem?_eq_some_iff.1 hb2b).1
        have d0 := cell_of_row w2 _ 0 _ _ _ hb2b
        have d1 := cell_of_row w2 _ 1 _ _ _ hb2b
        have d2 := cell_of_row w2 _ 2 _ _ _ hb2b
        have q0' := HB2.out.c 0 _ rfl
        clear hb2 hb2b
        go_wp2
        go_ret
        exact ⟨ret_bool HX.out.symm, HB2.out.below⟩
      by_cases c3 : lv ≤ 24
      case neg =>
        have HX : Hid (Gm.terms G.ts = false) := hide (terms_no hlt (by rw [QT.out]; unfold Gm.term1; simp [c3]))
        have f3 := Int.not_le.1 c3
        clear c3
        go_wp2_with fail
        refine (HNM.out _).mono ?_; rintro _ _ ⟨rfl, rfl⟩
        go_wp2_with fail
        refine (HTM.out _ (HB.out.alloc _)).mono ?_; rintro _ w2 ⟨rfl, hb2⟩
        have HB2 := hide ((HB.out.alloc _).on hb2)
        have hb2b := (hb2.block wr.heap.size (by simp)).trans (heap_alloc_new wr _)
        have z2 : wr.heap.size < w2.heap.size := (Array.getElem?_eq_some_iff.1 hb2b).1
        have d0 := cell_of_row w2 _ 0 _ _ _ hb2b
        have d1 := cell_of_row w2 _ 1 _ _ _ hb2b
        have d2 := cell_of_row w2 _ 2 _ _ _ hb2b
        have q0' := HB2.out.c 0 _ rfl
        clear hb2 hb2b
        go_wp2
        go_ret
        exact ⟨ret_bool HX.out.symm, HB2.out.below⟩
      by_cases c4 : 0 ≤ wy
      case neg =>
        have HX : Hid (Gm.terms G.ts = false) := hide (terms_no hlt (by rw [QT.out]; unfold Gm.term1; simp [c4]))
        have f4 := Int.not_le.1 c4
        clear c4
        go_wp2_with fail
        refine (HNM.out _).mono ?_; rintro _ _ ⟨rfl, rfl⟩
        go_wp2_with fail
        refine (HTM.out _ (HB.out.alloc _)).mono ?_; rintro _ w2 ⟨rfl, hb2⟩
        have HB2 := hide ((HB.out.alloc _).on hb2)
        have hb2b := (hb2.block wr.heap.size (by simp)).trans (heap_alloc_new wr _)
        have z2 : wr.heap.size < w2.heap.size := (Array.getElem?_eq_some_iff.1 hb2b).1
        have d0 := cell_of_row w2 _ 0 _ _ _ hb2b
        have d1 := cell_of_row w2 _ 1 _ _ _ hb2b
        have d2 := cell_of_row w2 _ 2 _ _ _ hb2b
        have q0' := HB2.out.c 0 _ rfl
        clear hb2 hb2b
        go_wp2
        go_ret
        exact ⟨ret_bool HX.out.symm, HB2.out.below⟩
      by_cases c5 : wy ≤ 3
      case neg =>
        have HX : Hid (Gm.terms G.ts = false) := hide (terms_no hlt (by rw [QT.out]; unfold Gm.term1; simp [c5]))
        have f5 := Int.not_le.1 c5
        clear c5
        go_wp2_with fail
        refine (HNM.out _).mono ?_; rintro _ _ ⟨rfl, rfl⟩
        go_wp2_with fail
        refine (HTM.out _ (HB.out.alloc _)).mono ?_; rintro _ w2 ⟨rfl, hb2⟩
        have HB2 := hide ((HB.out.alloc _).on hb2)
        have hb2b := (hb2.block wr.heap.size (by simp)).trans (heap_alloc_new wr _)
        have z2 : wr.heap.size < w2.heap.size := (Array.getElem?_eq_some_iff.1 hb2b).1
        have d0 := cell_of_row w2 _ 0 _ _ _ hb2b
        have d1 := cell_of_row w2 _ 1 _ _ _ hb2b
        have d2 := cell_of_row w2 _ 2 _ _ _ hb2b
        have q0' := HB2.out.c 0 _ rfl
        clear hb2 hb2b
        go_wp2
        go_ret
        exact ⟨ret_bool HX.out.symm, HB2.out.below⟩
      by_cases c6 : ((lv == 0) == (wy == 0)) = true
      case neg =>
        have c6' := Bool.eq_false_iff.2 c6
        have HX : Hid (Gm.terms G.ts = false) := hide (terms_no hlt (by rw [QT.out]; unfold Gm.term1; simp [c6']))
        obtain ⟨b6, e5, e6⟩ : ∃ b : Bool, (lv == 0) = b ∧ (wy == 0) = !b := ⟨(lv == 0), rfl, by revert c6'; cases (lv == 0) <;> cases (wy == 0) <;> simp⟩
        clear c6 c6'
        go_wp2_with fail
        refine (HNM.out _).mono ?_; rintro _ _ ⟨rfl, rfl⟩
        go_wp2_with fail
        refine (HTM.out _ (HB.out.alloc _)).mono ?_; rintro _ w2 ⟨rfl, hb2⟩
        have HB2 := hide ((HB.out.alloc _).on hb2)
        have hb2b := (hb2.block wr.heap.size (by simp)).trans (heap_alloc_new wr _)
        have z2 : wr.heap.size < w2.heap.size := (Array.getElem?_eq_some_iff.1 hb2b).1
        have d0 := cell_of_row w2 _ 0 _ _ _ hb2b
        have d1 := cell_of_row w2 _ 1 _ _ _ hb2b
        have d2 := cell_of_row w2 _ 2 _ _ _ hb2b
        have q0' := HB2.out.c 0 _ rfl
        clear hb2 hb2b
        go_wp2
        go_ret
        exact ⟨ret_bool HX.out.symm, HB2.out.below⟩
      obtain ⟨b6, e5, e6⟩ : ∃ b : Bool, (lv == 0) = b ∧ (wy == 0) = b := ⟨(lv == 0), rfl, by revert c6; cases (lv == 0) <;> cases (wy == 0) <;> simp⟩
      have C6 := hide c6
      clear c6
      go_wp2_with fail
      refine (HNM.out _).mono ?_; rintro _ _ ⟨rfl, rfl⟩
      go_wp2_with fail
      refine (HTM.out _ (HB.out.alloc _)).mono ?_; rintro _ w2 ⟨rfl, hb2⟩
      have HB2 := hide ((HB.out.alloc _).on hb2)
      have hb2b := (hb2.block wr.heap.size (by simp)).trans (heap_alloc_new wr _)
      have z2 : wr.heap.size < w2.heap.size := (Array.getElem?_eq_some_iff.1 hb2b).1
      have d0 := cell_of_row w2 _ 0 _ _ _ hb2b
      have d1 := cell_of_row w2 _ 1 _ _ _ hb2b
      have d2 := cell_of_row w2 _ 2 _ _ _ hb2b
      have q0' := HB2.out.c 0 _ rfl
      have HBK : Hid (w2.heap[wr.heap.size]? = some (.cells #[.string (K.str nm), .int .i64 lv, .int .i64 wy] 45 (0, 0))) := hide hb2b
      clear hb2 hb2b
      go_wp2
      obtain ⟨wo, hwo⟩ : ∃ x : World, x = wr := ⟨_, rfl⟩
      subst hwo
      go_loopw [5] (fun vn wr => ∃ (j : Nat), 1 ≤ j ∧ j ≤ 25 ∧ vn = .int .i64 j ∧ LvOk G.ts j ∧ One w #[.slice (some ⟨g, o, none⟩) G.ts.length cT, .slice AN G.ns.length cN, .slice AR G.rs.length cR, .int .i64 G.st] wr ∧ Hid (wr.heap[wo.heap.size]? = some (.cells #[.string (K.str nm), .int .i64 lv, .int .i64 wy] 45 (0, 0)))) (fun vn _ => 30 - (intOf vn).toNat)
      case atStart => exact ⟨1, by omega, by omega, rfl, fun m h => by omega, HB2.out, HBK⟩
      case round =>
        clear q0 q0' q1 q2 q3 k0 k1 k2 d0 d1 d2 z2 hz HBK HB2 HB
        obtain ⟨j, hj1, hj2, rfl, HL, hb, HBK⟩ := hrel
        have HL := hide HL
        have HB := hide hb
        have q0 := hb.c 0 _ rfl
        have q1 := hb.c 1 _ rfl
        have q2 := hb.c 2 _ rfl
        have q3 := hb.c 3 _ rfl
        have hz : w.heap.size < wr.heap.size := hb.size
        have z2 : wo.heap.size < wr.heap.size := (Array.getElem?_eq_some_iff.1 HBK.out).1
        have d1 := cell_of_row wr _ 1 _ _ _ HBK.out
        clear hb
        by_cases hjl : (j : Int) ≤ lv
        · have HC := hide (HLV.out (j : Int) _ HB.out)
          cases q : Gm.lev (j : Int) G.ts 0
          · have HX : Hid (Gm.terms G.ts = false) := hide (terms_no hlt (by
              rw [QT.out]; unfold Gm.term1
              rw [Bool.and_eq_false_iff]
              refine .inr (decide_eq_false fun hall => ?_)
              have := hall (j - 1) (by simp only; omega)
              rw [show j - 1 + 1 = j by omega, q] at this
              cases this))
            rw [q] at HC
            clear q
            go_wp2_with fail
            refine HC.out.mono ?_; rintro _ w3 ⟨rfl, hb3⟩
            have HB3 := hide (HB.out.on hb3)
            clear hb3
            go_wp2
            go_ret
            exact ⟨ret_bool HX.out.symm, HB3.out.below⟩
          · rw [q] at HC
            have HL2 : Hid (LvOk G.ts (j + 1)) := hide (fun m h => by
              rcases Nat.lt_or_ge (m + 1) j with h1 | h1
              · exact HL.out m h1
              · obtain rfl : j = m + 1 := by omega
                exact q)
            clear q
            go_wp2_with fail
            refine HC.out.mono ?_; rintro _ w3 ⟨rfl, hb3⟩
            have HB3 := hide (HB.out.on hb3)
            have HK3 : Hid (w3.heap[wo.heap.size]? = some (.cells #[.string (K.str nm), .int .i64 lv, .int .i64 wy] 45 (0, 0))) := hide ((hb3.block wo.heap.size z2).trans HBK.out)
            clear hb3
            go_wp2
            go_roundw
            case rel => exact ⟨j + 1, by omega, by omega, by go_num, HL2.out, HB3.out, HK3⟩
            case measure => simp [intOf]; omega
        · have HX : Hid (TmOk G.ts (k + 1)) := hide (HE.out.next hlt (by
            rw [QT.out]; unfold Gm.term1
            simp only [Bool.and_eq_true, decide_eq_true_eq, beq_iff_eq]
            exact ⟨⟨⟨⟨⟨⟨⟨C0.out, C1.out⟩, c2⟩, c3⟩, c4⟩, c5⟩, beq_iff_eq.1 C6.out⟩, fun n hn => HL.out n (by omega)⟩))
          go_wp2
          go_roundw
          case rel => exact ⟨k + 1, by omega, by go_num, HX.out, HB.out⟩
          case measure => simp [intOf]; omega
    · obtain rfl : k = G.ts.length := by omega
      have HX := hide (HE.out.all (by omega))
      clear hbw
      go_wp2
      go_ret
      exact ⟨ret_bool HX.out.symm, HB.out.below⟩
end Go.Proofs.YtoehbkgdodogkaaGreat

/- Contracts over this program: whether the nonterminals, rules, and a whole grammar may be, by the document's own functions. -/
namespace Go.Proofs.YtoehbkgdodogkaaGreat
set_option maxRecDepth 100000
open Go.RowKit

theorem ite_no {c : Bool} {a b : Prop} (h : c = false) : (if c = true then a else b) = b := by rw [h]; rfl
theorem nons_no {G : Gm.Gr} {k : Nat} (h : k < G.ns.length) (hn : Gm.non1 G k G.ns[k] = false) : Gm.nons G = false := by
  unfold Gm.nons
  rw [Bool.and_eq_false_iff]
  exact .inr (decide_eq_false fun q => by have := q k h; rw [hn] at this; cases this)
/-- The first k nonterminals may be. -/
def NnOk (G : Gm.Gr) (k : Nat) : Prop := ∀ i (h : i < G.ns.length), i < k → Gm.non1 G i G.ns[i] = true
theorem NnOk.next {G : Gm.Gr} {k : Nat} (h : NnOk G k) (hk : k < G.ns.length) (hn : Gm.non1 G k G.ns[k] = true) : NnOk G (k + 1) := fun i hi hik => by
  rcases Nat.lt_or_ge i k with q | q
  · exact h i hi q
  · obtain rfl : i = k := by omega
    exact hn
theorem NnOk.all {G : Gm.Gr} (h : NnOk G G.ns.length) (h1 : 1 ≤ G.ns.length) (hl : G.ns.length ≤ 16) : Gm.nons G = true := by
  unfold Gm.nons
  rw [decide_eq_true h1, decide_eq_true hl, decide_eq_true fun i hi => h i hi hi]; rfl

set_option maxHeartbeats 8000000 in
theorem rnons_any (v : Value) (G : Gm.Gr) (B : Nat) (w : World) (hg : RdGr w B v G) (hf : Gm.Fit G) (hB : B ≤ w.heap.size) :
    Calls Tryz.prog 22 #[v] w fun e w' => e = .returned (.bool (Gm.nons G)) ∧ Below w.heap.size w w' := by
  have HG := hide hg
  obtain ⟨AT, cT, AN, cN, AR, cR, rfl, _, ⟨hl, hm⟩, _, _, ht, _⟩ := hg
  have HT := hide ht
  have HF := hide hf
  have HS0 := hide (One.start w #[.slice AT G.ts.length cT, .slice AN G.ns.length cN, .slice AR G.rs.length cR, .int .i64 G.st])
  clear ht hf
  by_cases h1 : G.ns.length < 1
  · have HX : Hid (Gm.nons G = false) := hide (by unfold Gm.nons; rw [decide_eq_false (by omega)]; rfl)
    rw [HX.out]
    go_enter Tryz.func22, Tryz.ntmps22
    go_wp2
    go_ret
    exact ⟨rfl, HS0.out.below⟩
  by_cases h16 : 16 < G.ns.length
  · have HX : Hid (Gm.nons G = false) := hide (by unfold Gm.nons; rw [decide_eq_false (show ¬ G.ns.length ≤ 16 by omega)]; simp)
    rw [HX.out]
    go_enter Tryz.func22, Tryz.ntmps22
    go_wp2
    go_ret
    exact ⟨rfl, HS0.out.below⟩
  go_enter Tryz.func22, Tryz.ntmps22
  go_wp2
  go_loopw [3] (fun vi wr => ∃ (k : Nat), k ≤ G.ns.length ∧ vi = .int .i64 k ∧ NnOk G k ∧ One w #[.slice AT G.ts.length cT, .slice AN G.ns.length cN, .slice AR G.rs.length cR, .int .i64 G.st] wr) (fun vi _ => G.ns.length - (intOf vi).toNat)
  case atStart => exact ⟨0, Nat.zero_le _, rfl, fun _ _ h => by omega, HS0.out⟩
  case round =>
    obtain ⟨k, hk, rfl, HE, hb⟩ := hrel
    have HE := hide HE
    have HB := hide hb
    have q1 := hb.c 1 _ rfl
    have hz : w.heap.size < wr.heap.size := hb.size
    have hbw := hb.below
    by_cases hlt : k < G.ns.length
    · obtain ⟨g, o, rfl, hgb, hc⟩ := HT.out (by omega)
      have k0 := (hbw.cell (p := ⟨g, o + k, none⟩) (Nat.lt_of_lt_of_le hgb hB)).trans (hc k hlt)
      have hgs : g < wr.heap.size := by omega
      have hft := HF.out.n _ (List.getElem_mem hlt)
      have HNM := hide (fun x => rname_any _ hft.1 x)
      have HTM := hide (fun (x : World) (h : One w #[.slice AT G.ts.length cT, .slice (some ⟨g, o, none⟩) G.ns.length cN, .slice AR G.rs.length cR, .int .i64 G.st] x) => term_any _ G _ B x (HG.out.below h.below hB) HF.out hft (Nat.le_trans hB h.below.size))
      have HNO := hide (fun (x : World) (h : One w #[.slice AT G.ts.length cT, .slice (some ⟨g, o, none⟩) G.ns.length cN, .slice AR G.rs.length cR, .int .i64 G.st] x) => rnon_any _ G _ B x (HG.out.below h.below hB) HF.out hft (Nat.le_trans hB h.below.size))
      obtain ⟨s, qs⟩ : ∃ t, t = G.ns[k] := ⟨_, rfl⟩
      rw [← qs] at k0 hft HNM HTM HNO
      have QS := hide qs.symm
      have kk0 : (0 : Int) ≤ (k : Int) := by omega
      have kk1 : (k : Int) < (G.ns.length : Int) := by omega
      have q0 := hb.c 0 _ rfl
      have q2 := hb.c 2 _ rfl
      have q3 := hb.c 3 _ rfl
      have HD1 := hide (below_drewN (Below.refl wr.heap.size wr) 1)
      have A0 := fun y : Calm.On wr.heap.size wr => (y.2.cell (p := ⟨g, o + k, none⟩) hgs).trans k0
      have Q0 := fun y : Calm.On wr.heap.size wr => (y.2.cell (p := ⟨w.heap.size, 0, none⟩) hz).trans q0
      have Q1 := fun y : Calm.On wr.heap.size wr => (y.2.cell (p := ⟨w.heap.size, 1, none⟩) hz).trans q1
      have Q2 := fun y : Calm.On wr.heap.size wr => (y.2.cell (p := ⟨w.heap.size, 2, none⟩) hz).trans q2
      have Q3 := fun y : Calm.On wr.heap.size wr => (y.2.cell (p := ⟨w.heap.size, 3, none⟩) hz).trans q3
      clear hc hbw qs hft hb q0 q2 q3
      unfold Gm.term at HTM
      unfold Gm.non at HNO
      by_cases c0 : T.isName s = true
      case neg =>
        have HX : Hid (Gm.nons G = false) := hide (nons_no hlt (by rw [QS.out]; unfold Gm.non1; simp [Bool.eq_false_iff.2 c0]))
        rw [Bool.eq_false_iff.2 c0] at HNM
        clear c0 HNO HTM
        go_wp2_with fail
        refine Calm.region_tree (fun x => ∃ y : Calm.On wr.heap.size wr, x = y.1) (.one [0, 1, 2, 3, 4] 5 (.one [6, 7, 8, 9, 10, 11, 12, 13, 15] 14 (.one [16, 17, 18, 19, 20, 21, 22, 23, 24] 25 (.fin [26, 27])))) (by kernel_rfl) (by kernel_rfl) (fun _ _ d _ _ h => by cases d <;> exact h) ⟨⟨wr.drew, below_drewN (Below.refl _ _) 1⟩, rfl⟩ ?_
        clear q1 k0
        simp only [Calm.wpT, Calm.wpSt, Calm.pickOps, List.getElem?_toArray, List.getElem?_cons_zero, List.getElem?_cons_succ]
        repeat (go_big_quiet_step (fail))
        refine wpQuiet_nil ?_
        intro KK hKK
        rw [if_pos (by rfl)]
        go_wp2_with fail
        refine (HNM.out _).mono ?_; rintro _ _ ⟨rfl, rfl⟩
        go_wp2_with fail
        refine hKK _ _ ⟨⟨_, HD1.out⟩, rfl⟩ (fun x => ∃ y : Calm.On wr.heap.size wr, x = y.1) (fun _ h => h) ⟨⟨_, HD1.out⟩, rfl⟩ ?_
        repeat (go_big_quiet_step (fail))
        refine wpQuiet_nil ?_
        intro KK hKK
        rw [ite_no (by rfl)]
        refine hKK _ _ ⟨⟨_, HD1.out⟩, rfl⟩ (fun x => ∃ y : Calm.On wr.heap.size wr, x = y.1) (fun _ h => h) ⟨⟨_, HD1.out⟩, rfl⟩ ?_
        go_frame
        repeat (go_big_quiet_step (fail))
        refine wpQuiet_nil ?_
        intro KK hKK
        rw [ite_no (by rfl)]
        refine hKK _ _ ⟨⟨_, HD1.out⟩, rfl⟩ (fun x => ∃ y : Calm.On wr.heap.size wr, x = y.1) (fun _ h => h) ⟨⟨_, HD1.out⟩, rfl⟩ ?_
        go_frame
        repeat (go_big_quiet_step (fail))
        refine wpQuiet_nil ?_
        clear hKK A0 Q0
        have HE2 := hide (HB.out.on HD1.out)
        go_wp2
        go_ret
        exact ⟨ret_bool HX.out.symm, HE2.out.below⟩
      rw [c0] at HNM
      by_cases c1 : Gm.find G.ns s = (k : Int)
      case neg =>
        have HX : Hid (Gm.nons G = false) := hide (nons_no hlt (by rw [QS.out]; unfold Gm.non1 Gm.non; simp [c1]))
        have f1 : (Gm.find G.ns s != (k : Int)) = true := by simpa using c1
        clear c0 c1 HTM
        go_wp2_with fail
        refine Calm.region_tree (fun x => ∃ y : Calm.On wr.heap.size wr, x = y.1) (.one [0, 1, 2, 3, 4] 5 (.one [6, 7, 8, 9, 10, 11, 12, 13, 15] 14 (.one [16, 17, 18, 19, 20, 21, 22, 23, 24] 25 (.fin [26, 27])))) (by kernel_rfl) (by kernel_rfl) (fun _ _ d _ _ h => by cases d <;> exact h) ⟨⟨wr.drew, below_drewN (Below.refl _ _) 1⟩, rfl⟩ ?_
        clear q1 k0
        simp only [Calm.wpT, Calm.wpSt, Calm.pickOps, List.getElem?_toArray, List.getElem?_cons_zero, List.getElem?_cons_succ]
        repeat (go_big_quiet_step (fail))
        refine wpQuiet_nil ?_
        intro KK hKK
        rw [if_pos (by rfl)]
        go_wp2_with fail
        refine (HNM.out _).mono ?_; rintro _ _ ⟨rfl, rfl⟩
        go_wp2_with fail
        refine hKK _ _ ⟨⟨_, HD1.out⟩, rfl⟩ (fun x => ∃ y : Calm.On wr.heap.size wr, x = y.1) (fun _ h => h) ⟨⟨_, HD1.out⟩, rfl⟩ ?_
        repeat (go_big_quiet_step (fail))
        refine wpQuiet_nil ?_
        intro KK hKK
        rw [if_pos (by rfl)]
        go_wp2_with fail
        refine (HNO.out _ (HB.out.on HD1.out)).mono ?_; rintro _ w2 ⟨rfl, hb2⟩
        have HD2 := hide (HD1.out.trans (hb2.mono HD1.out.size))
        clear hb2
        go_wp2_with fail
        refine hKK _ _ ⟨⟨_, HD2.out⟩, rfl⟩ (fun x => ∃ y : Calm.On wr.heap.size wr, x = y.1) (fun _ h => h) ⟨⟨_, HD2.out⟩, rfl⟩ ?_
        repeat (go_big_quiet_step (fail))
        refine wpQuiet_nil ?_
        intro KK hKK
        rw [ite_no (by rfl)]
        refine hKK _ _ ⟨⟨_, HD2.out⟩, rfl⟩ (fun x => ∃ y : Calm.On wr.heap.size wr, x = y.1) (fun _ h => h) ⟨⟨_, HD2.out⟩, rfl⟩ ?_
        go_frame
        repeat (go_big_quiet_step (fail))
        refine wpQuiet_nil ?_
        clear hKK A0 Q0
        have HE2 := hide (HB.out.on HD2.out)
        go_wp2
        go_ret
        exact ⟨ret_bool HX.out.symm, HE2.out.below⟩
      have f1 : (Gm.find G.ns s != (k : Int)) = false := by simpa using c1
      by_cases c2 : Gm.find (Gm.names G.ts) s < 0
      case neg =>
        have HX : Hid (Gm.nons G = false) := hide (nons_no hlt (by rw [QS.out]; unfold Gm.non1 Gm.term; rw [decide_eq_false c2]; simp))
        have f2 : decide (0 ≤ Gm.find (Gm.names G.ts) s) = true := by simp; omega
        clear c0 c1 c2
        go_wp2_with fail
        refine Calm.region_tree (fun x => ∃ y : Calm.On wr.heap.size wr, x = y.1) (.one [0, 1, 2, 3, 4] 5 (.one [6, 7, 8, 9, 10, 11, 12, 13, 15] 14 (.one [16, 17, 18, 19, 20, 21, 22, 23, 24] 25 (.fin [26, 27])))) (by kernel_rfl) (by kernel_rfl) (fun _ _ d _ _ h => by cases d <;> exact h) ⟨⟨wr.drew, below_drewN (Below.refl _ _) 1⟩, rfl⟩ ?_
        clear q1 k0
        simp only [Calm.wpT, Calm.wpSt, Calm.pickOps, List.getElem?_toArray, List.getElem?_cons_zero, List.getElem?_cons_succ]
        repeat (go_big_quiet_step (fail))
        refine wpQuiet_nil ?_
        intro KK hKK
        rw [if_pos (by rfl)]
        go_wp2_with fail
        refine (HNM.out _).mono ?_; rintro _ _ ⟨rfl, rfl⟩
        go_wp2_with fail
        refine hKK _ _ ⟨⟨_, HD1.out⟩, rfl⟩ (fun x => ∃ y : Calm.On wr.heap.size wr, x = y.1) (fun _ h => h) ⟨⟨_, HD1.out⟩, rfl⟩ ?_
        repeat (go_big_quiet_step (fail))
        refine wpQuiet_nil ?_
        intro KK hKK
        rw [if_pos (by rfl)]
        go_wp2_with fail
        refine (HNO.out _ (HB.out.on HD1.out)).mono ?_; rintro _ w2 ⟨rfl, hb2⟩
        have HD2 := hide (HD1.out.trans (hb2.mono HD1.out.size))
        clear hb2
        go_wp2_with fail
        refine hKK _ _ ⟨⟨_, HD2.out⟩, rfl⟩ (fun x => ∃ y : Calm.On wr.heap.size wr, x = y.1) (fun _ h => h) ⟨⟨_, HD2.out⟩, rfl⟩ ?_
        repeat (go_big_quiet_step (fail))
        refine wpQuiet_nil ?_
        intro KK hKK
        rw [if_pos (by rfl)]
        go_wp2_with fail
        refine (HTM.out _ (HB.out.on HD2.out)).mono ?_; rintro _ w3 ⟨rfl, hb3⟩
        have HD3 := hide (HD2.out.trans (hb3.mono HD2.out.size))
        clear hb3
        go_wp2_with fail
        refine hKK _ _ ⟨⟨_, HD3.out⟩, rfl⟩ (fun x => ∃ y : Calm.On wr.heap.size wr, x = y.1) (fun _ h => h) ⟨⟨_, HD3.out⟩, rfl⟩ ?_
        repeat (go_big_quiet_step (fail))
        refine wpQuiet_nil ?_
        clear hKK A0 Q0
        have HE2 := hide (HB.out.on HD3.out)
        go_wp2
        go_ret
        exact ⟨ret_bool HX.out.symm, HE2.out.below⟩
      have HX : Hid (NnOk G (k + 1)) := hide (HE.out.next hlt (by rw [QS.out]; unfold Gm.non1 Gm.non Gm.term; rw [c0, decide_eq_true c2, c1]; simp))
      have f2 : decide (0 ≤ Gm.find (Gm.names G.ts) s) = false := by simp; omega
      clear c0 c1 c2
      go_wp2_with fail
      refine Calm.region_tree (fun x => ∃ y : Calm.On wr.heap.size wr, x = y.1) (.one [0, 1, 2, 3, 4] 5 (.one [6, 7, 8, 9, 10, 11, 12, 13, 15] 14 (.one [16, 17, 18, 19, 20, 21, 22, 23, 24] 25 (.fin [26, 27])))) (by kernel_rfl) (by kernel_rfl) (fun _ _ d _ _ h => by cases d <;> exact h) ⟨⟨wr.drew, below_drewN (Below.refl _ _) 1⟩, rfl⟩ ?_
      clear q1 k0
      simp only [Calm.wpT, Calm.wpSt, Calm.pickOps, List.getElem?_toArray, List.getElem?_cons_zero, List.getElem?_cons_succ]
      repeat (go_big_quiet_step (fail))
      refine wpQuiet_nil ?_
      intro KK hKK
      rw [if_pos (by rfl)]
      go_wp2_with fail
      refine (HNM.out _).mono ?_; rintro _ _ ⟨rfl, rfl⟩
      go_wp2_with fail
      refine hKK _ _ ⟨⟨_, HD1.out⟩, rfl⟩ (fun x => ∃ y : Calm.On wr.heap.size wr, x = y.1) (fun _ h => h) ⟨⟨_, HD1.out⟩, rfl⟩ ?_
      repeat (go_big_quiet_step (fail))
      refine wpQuiet_nil ?_
      intro KK hKK
      rw [if_pos (by rfl)]
      go_wp2_with fail
      refine (HNO.out _ (HB.out.on HD1.out)).mono ?_; rintro _ w2 ⟨rfl, hb2⟩
      have HD2 := hide (HD1.out.trans (hb2.mono HD1.out.size))
      clear hb2
      go_wp2_with fail
      refine hKK _ _ ⟨⟨_, HD2.out⟩, rfl⟩ (fun x => ∃ y : Calm.On wr.heap.size wr, x = y.1) (fun _ h => h) ⟨⟨_, HD2.out⟩, rfl⟩ ?_
      repeat (go_big_quiet_step (fail))
      refine wpQuiet_nil ?_
      intro KK hKK
      rw [if_pos (by rfl)]
      go_wp2_with fail
      refine (HTM.out _ (HB.out.on HD2.out)).mono ?_; rintro _ w3 ⟨rfl, hb3⟩
      have HD3 := hide (HD2.out.trans (hb3.mono HD2.out.size))
      clear hb3
      go_wp2_with fail
      refine hKK _ _ ⟨⟨_, HD3.out⟩, rfl⟩ (fun x => ∃ y : Calm.On wr.heap.size wr, x = y.1) (fun _ h => h) ⟨⟨_, HD3.out⟩, rfl⟩ ?_
      repeat (go_big_quiet_step (fail))
      refine wpQuiet_nil ?_
      clear hKK A0 Q0
      have HE2 := hide (HB.out.on HD3.out)
      go_wp2
      go_roundw
      case rel => exact ⟨k + 1, by omega, by go_num, HX.out, HE2.out⟩
      case measure => simp [intOf]; omega
    · obtain rfl : k = G.ns.length := by omega
      have HX := hide (HE.out.all (by omega) (by omega))
      clear hbw hb
      go_wp2
      go_ret
      exact ⟨ret_bool HX.out.symm, HB.out.below⟩

theorem rule_no {G : Gm.Gr} {x : Gm.Rl} {k : Nat} (h : k < x.r.length) (hn : (Gm.has G x.r[k] && !(decide (0 ≤ x.r[k]) && x.p == -1)) = false) : Gm.rule G x = false := by
  unfold Gm.rule
  rw [Bool.and_eq_false_iff]
  refine .inr ?_
  rw [List.all_eq_false]
  exact ⟨_, List.getElem_mem h, by rw [hn]; simp⟩
/-- The first k symbols of a rule may be. -/
def ZsOk (G : Gm.Gr) (x : Gm.Rl) (k : Nat) : Prop := ∀ i (h : i < x.r.length), i < k → (Gm.has G x.r[i] && !(decide (0 ≤ x.r[i]) && x.p == -1)) = true
theorem ZsOk.next {G : Gm.Gr} {x : Gm.Rl} {k : Nat} (h : ZsOk G x k) (hk : k < x.r.length) (hn : (Gm.has G x.r[k] && !(decide (0 ≤ x.r[k]) && x.p == -1)) = true) : ZsOk G x (k + 1) := fun i hi hik => by
  rcases Nat.lt_or_ge i k with q | q
  · exact h i hi q
  · obtain rfl : i = k := by omega
    exact hn
theorem ZsOk.all {G : Gm.Gr} {x : Gm.Rl} (h : ZsOk G x x.r.length) (h1 : x.r.length ≤ 6) (h2 : -1 ≤ x.p) (h3 : x.p < G.ts.length) : Gm.rule G x = true := by
  unfold Gm.rule
  rw [decide_eq_true h1, decide_eq_true h2, decide_eq_true h3]
  simp only [Bool.true_and]
  rw [List.all_eq_true]
  intro z hz
  obtain ⟨i, hi, rfl⟩ := List.getElem_of_mem hz
  exact h i hi hi

set_option maxHeartbeats 8000000 in
theorem rrule_any (v : Value) (G : Gm.Gr) (B : Nat) (x : Gm.Rl) (A : Option Addr) (c : Nat) (w : World) (hg : RdGr w B v G) (hr : RdI w B A x.r) (hx : ∀ z ∈ x.r, Gm.In z) (hB : B ≤ w.heap.size) :
    Calls Tryz.prog 23 #[v, .agg #[.int .i64 x.l, .slice A x.r.length c, .int .i64 x.p]] w fun e w' => e = .returned (.bool (Gm.rule G x)) ∧ Below w.heap.size w w' := by
  have HG := hide hg
  obtain ⟨AT, cT, AN, cN, AR, cR, rfl, _, _, _, _, _, _⟩ := hg
  have HT := hide hr
  have HF := hide hx
  have HB0 := hide ((One.start w #[.slice AT G.ts.length cT, .slice AN G.ns.length cN, .slice AR G.rs.length cR, .int .i64 G.st]).alloc (.cells #[.int .i64 x.l, .slice A x.r.length c, .int .i64 x.p] 43))
  have HK0 : Hid (((w.alloc (.cells #[.slice AT G.ts.length cT, .slice AN G.ns.length cN, .slice AR G.rs.length cR, .int .i64 G.st] 26)).alloc (.cells #[.int .i64 x.l, .slice A x.r.length c, .int .i64 x.p] 43)).heap[w.heap.size + 1]? = some (.cells #[.int .i64 x.l, .slice A x.r.length c, .int .i64 x.p] 43 (0, 0))) := hide (by
    have := heap_alloc_new (w.alloc (.cells #[.slice AT G.ts.length cT, .slice AN G.ns.length cN, .slice AR G.rs.length cR, .int .i64 G.st] 26)) (.cells #[.int .i64 x.l, .slice A x.r.length c, .int .i64 x.p] 43)
    simpa using this)
  clear hr hx
  by_cases h1 : 6 < x.r.length
  · have HX : Hid (Gm.rule G x = false) := hide (by unfold Gm.rule; rw [decide_eq_false (show ¬ x.r.length ≤ 6 by omega)]; rfl)
    rw [HX.out]
    go_enter Tryz.func23, Tryz.ntmps23
    go_wp2
    go_ret
    exact ⟨rfl, HB0.out.below⟩
  by_cases h2 : x.p < -1
  · have HX : Hid (Gm.rule G x = false) := hide (by unfold Gm.rule; rw [decide_eq_false (show ¬ -1 ≤ x.p by omega)]; simp)
    rw [HX.out]
    go_enter Tryz.func23, Tryz.ntmps23
    go_wp2
    go_ret
    exact ⟨rfl, HB0.out.below⟩
  by_cases h3 : (G.ts.length : Int) ≤ x.p
  · have HX : Hid (Gm.rule G x = false) := hide (by unfold Gm.rule; rw [decide_eq_false (show ¬ x.p < (G.ts.length : Int) by omega)]; simp)
    rw [HX.out]
    go_enter Tryz.func23, Tryz.ntmps23
    go_wp2
    go_ret
    exact ⟨rfl, HB0.out.below⟩
  go_enter Tryz.func23, Tryz.ntmps23
  go_wp2
  go_loopw [5] (fun vi wr => ∃ (k : Nat), k ≤ x.r.length ∧ vi = .int .i64 k ∧ ZsOk G x k ∧ One w #[.slice AT G.ts.length cT, .slice AN G.ns.length cN, .slice AR G.rs.length cR, .int .i64 G.st] wr ∧ Hid (wr.heap[w.heap.size + 1]? = some (.cells #[.int .i64 x.l, .slice A x.r.length c, .int .i64 x.p] 43 (0, 0)))) (fun vi _ => x.r.length - (intOf vi).toNat)
  case atStart => exact ⟨0, Nat.zero_le _, rfl, fun _ _ h => by omega, HB0.out, HK0⟩
  case round =>
    obtain ⟨k, hk, rfl, HE, hb, HBK⟩ := hrel
    have HE := hide HE
    have HB := hide hb
    have hz : w.heap.size < wr.heap.size := hb.size
    have hz1 : w.heap.size + 1 < wr.heap.size := (Array.getElem?_eq_some_iff.1 HBK.out).1
    have hbw := hb.below
    have q0 := hb.c 0 _ rfl
    have q1 := hb.c 1 _ rfl
    have q2 := hb.c 2 _ rfl
    have q3 := hb.c 3 _ rfl
    have d0 := cell_of_row wr _ 0 _ _ _ HBK.out
    have d1 := cell_of_row wr _ 1 _ _ _ HBK.out
    have d2 := cell_of_row wr _ 2 _ _ _ HBK.out
    clear hb
    by_cases hlt : k < x.r.length
    · obtain ⟨g, o, rfl, hgb, hc⟩ := HT.out (by omega)
      have k0 := (hbw.cell (p := ⟨g, o + k, none⟩) (Nat.lt_of_lt_of_le hgb hB)).trans (hc k hlt)
      rw [L.gd_lt hlt] at k0
      have hgs : g < wr.heap.size := by omega
      have hft := HF.out _ (List.getElem_mem hlt)
      have HH := hide (fun (y : World) (h : One w #[.slice AT G.ts.length cT, .slice AN G.ns.length cN, .slice AR G.rs.length cR, .int .i64 G.st] y) => rhas_any9 _ G B x.r[k] hft y (HG.out.below h.below hB))
      obtain ⟨z, qz⟩ : ∃ t, t = x.r[k] := ⟨_, rfl⟩
      rw [← qz] at k0 HH
      have QZ := hide qz.symm
      have kk0 : (0 : Int) ≤ (k : Int) := by omega
      have kk1 : (k : Int) < (x.r.length : Int) := by omega
      have HD1 := hide (below_drewN (Below.refl wr.heap.size wr) 1)
      have A0 := fun y : Calm.On wr.heap.size wr => (y.2.cell (p := ⟨g, o + k, none⟩) hgs).trans k0
      have Q0 := fun y : Calm.On wr.heap.size wr => (y.2.cell (p := ⟨w.heap.size, 0, none⟩) hz).trans q0
      have Q1 := fun y : Calm.On wr.heap.size wr => (y.2.cell (p := ⟨w.heap.size, 1, none⟩) hz).trans q1
      have Q2 := fun y : Calm.On wr.heap.size wr => (y.2.cell (p := ⟨w.heap.size, 2, none⟩) hz).trans q2
      have Q3 := fun y : Calm.On wr.heap.size wr => (y.2.cell (p := ⟨w.heap.size, 3, none⟩) hz).trans q3
      have D0 := fun y : Calm.On wr.heap.size wr => (y.2.cell (p := ⟨w.heap.size + 1, 0, none⟩) hz1).trans d0
      have D1 := fun y : Calm.On wr.heap.size wr => (y.2.cell (p := ⟨w.heap.size + 1, 1, none⟩) hz1).trans d1
      have D2 := fun y : Calm.On wr.heap.size wr => (y.2.cell (p := ⟨w.heap.size + 1, 2, none⟩) hz1).trans d2
      clear hc hbw qz hft
      cases c0 : Gm.has G z
      · have HX : Hid (Gm.rule G x = false) := hide (rule_no hlt (by rw [QZ.out]; simp [c0]))
        rw [c0] at HH
        clear c0
        go_wp2_with fail
        refine Calm.region_tree (fun x => ∃ y : Calm.On wr.heap.size wr, x = y.1) (.one [0, 1, 2, 3, 4, 5] 6 (.fin [7, 8, 9, 10, 11, 12, 13, 14, 15, 16, 17, 18, 19, 20])) (by kernel_rfl) (by kernel_rfl) (fun _ _ d _ _ h => by cases d <;> exact h) ⟨⟨wr.drew, below_drewN (Below.refl _ _) 1⟩, rfl⟩ ?_
        clear q0 q1 q2 q3 d0 d1 d2 k0
        simp only [Calm.wpT, Calm.wpSt, Calm.pickOps, List.getElem?_toArray, List.getElem?_cons_zero, List.getElem?_cons_succ]
        repeat (go_big_quiet_step (fail))
        refine wpQuiet_nil ?_
        intro KK hKK
        rw [if_pos (by rfl)]
        go_wp2_with fail
        refine (HH.out _ (HB.out.on HD1.out)).mono ?_; rintro _ w2 ⟨rfl, hb2⟩
        have HD2 := hide (HD1.out.trans (hb2.mono HD1.out.size))
        clear hb2
        go_wp2_with fail
        refine hKK _ _ ⟨⟨_, HD2.out⟩, rfl⟩ (fun x => ∃ y : Calm.On wr.heap.size wr, x = y.1) (fun _ h => h) ⟨⟨_, HD2.out⟩, rfl⟩ ?_
        repeat (go_big_quiet_step (fail))
        refine wpQuiet_nil ?_
        clear hKK A0 Q0 Q1 Q2 Q3 D0 D1 D2
        have HE2 := hide (HB.out.on HD2.out)
        have HK2 := hide ((HD2.out.block (w.heap.size + 1) (Nat.lt_of_succ_le hz1)).trans HBK.out)
        go_wp2
        go_ret
        exact ⟨ret_bool HX.out.symm, HE2.out.below⟩
      · rw [c0] at HH
        have C0 := hide c0
        clear c0
        by_cases c1 : 0 ≤ z
        · by_cases c2 : x.p = -1
          · have HX : Hid (Gm.rule G x = false) := hide (rule_no hlt (by rw [QZ.out]; simp [c1, c2]))
            have f2 : (x.p == -1) = true := by simpa using c2
            have f1 : decide (0 ≤ z) = true := decide_eq_true c1
            clear c2
            go_wp2_with fail
            refine Calm.region_tree (fun x => ∃ y : Calm.On wr.heap.size wr, x = y.1) (.one [0, 1, 2, 3, 4, 5] 6 (.fin [7, 8, 9, 10, 11, 12, 13, 14, 15, 16, 17, 18, 19, 20])) (by kernel_rfl) (by kernel_rfl) (fun _ _ d _ _ h => by cases d <;> exact h) ⟨⟨wr.drew, below_drewN (Below.refl _ _) 1⟩, rfl⟩ ?_
            clear q0 q1 q2 q3 d0 d1 d2 k0
            simp only [Calm.wpT, Calm.wpSt, Calm.pickOps, List.getElem?_toArray, List.getElem?_cons_zero, List.getElem?_cons_succ]
            repeat (go_big_quiet_step (fail))
            refine wpQuiet_nil ?_
            intro KK hKK
            rw [if_pos (by rfl)]
            go_wp2_with fail
            refine (HH.out _ (HB.out.on HD1.out)).mono ?_; rintro _ w2 ⟨rfl, hb2⟩
            have HD2 := hide (HD1.out.trans (hb2.mono HD1.out.size))
            clear hb2
            go_wp2_with fail
            refine hKK _ _ ⟨⟨_, HD2.out⟩, rfl⟩ (fun x => ∃ y : Calm.On wr.heap.size wr, x = y.1) (fun _ h => h) ⟨⟨_, HD2.out⟩, rfl⟩ ?_
            repeat (go_big_quiet_step (fail))
            refine wpQuiet_nil ?_
            clear hKK A0 Q0 Q1 Q2 Q3 D0 D1 D2
            have HE2 := hide (HB.out.on HD2.out)
            have HK2 := hide ((HD2.out.block (w.heap.size + 1) (Nat.lt_of_succ_le hz1)).trans HBK.out)
            go_wp2
            go_ret
            exact ⟨ret_bool HX.out.symm, HE2.out.below⟩
          · have HX : Hid (ZsOk G x (k + 1)) := hide (HE.out.next hlt (by rw [QZ.out, C0.out]; simp [c2]))
            have f2 : (x.p == -1) = false := by simpa using c2
            have f1 : decide (0 ≤ z) = true := decide_eq_true c1
            clear c2
            go_wp2_with fail
            refine Calm.region_tree (fun x => ∃ y : Calm.On wr.heap.size wr, x = y.1) (.one [0, 1, 2, 3, 4, 5] 6 (.fin [7, 8, 9, 10, 11, 12, 13, 14, 15, 16, 17, 18, 19, 20])) (by kernel_rfl) (by kernel_rfl) (fun _ _ d _ _ h => by cases d <;> exact h) ⟨⟨wr.drew, below_drewN (Below.refl _ _) 1⟩, rfl⟩ ?_
            clear q0 q1 q2 q3 d0 d1 d2 k0
            simp only [Calm.wpT, Calm.wpSt, Calm.pickOps, List.getElem?_toArray, List.getElem?_cons_zero, List.getElem?_cons_succ]
            repeat (go_big_quiet_step (fail))
            refine wpQuiet_nil ?_
            intro KK hKK
            rw [if_pos (by rfl)]
            go_wp2_with fail
            refine (HH.out _ (HB.out.on HD1.out)).mono ?_; rintro _ w2 ⟨rfl, hb2⟩
            have HD2 := hide (HD1.out.trans (hb2.mono HD1.out.size))
            clear hb2
            go_wp2_with fail
            refine hKK _ _ ⟨⟨_, HD2.out⟩, rfl⟩ (fun x => ∃ y : Calm.On wr.heap.size wr, x = y.1) (fun _ h => h) ⟨⟨_, HD2.out⟩, rfl⟩ ?_
            repeat (go_big_quiet_step (fail))
            refine wpQuiet_nil ?_
            clear hKK A0 Q0 Q1 Q2 Q3 D0 D1 D2
            have HE2 := hide (HB.out.on HD2.out)
            have HK2 := hide ((HD2.out.block (w.heap.size + 1) (Nat.lt_of_succ_le hz1)).trans HBK.out)
            go_wp2
            go_roundw
            case rel => exact ⟨k + 1, by omega, by go_num, HX.out, HE2.out, HK2⟩
            case measure => simp [intOf]; omega
        · have HX : Hid (ZsOk G x (k + 1)) := hide (HE.out.next hlt (by rw [QZ.out, C0.out]; simp [c1]))
          have f1 : decide (0 ≤ z) = false := decide_eq_false c1
          go_wp2_with fail
          refine Calm.region_tree (fun x => ∃ y : Calm.On wr.heap.size wr, x = y.1) (.one [0, 1, 2, 3, 4, 5] 6 (.fin [7, 8, 9, 10, 11, 12, 13, 14, 15, 16, 17, 18, 19, 20])) (by kernel_rfl) (by kernel_rfl) (fun _ _ d _ _ h => by cases d <;> exact h) ⟨⟨wr.drew, below_drewN (Below.refl _ _) 1⟩, rfl⟩ ?_
          clear q0 q1 q2 q3 d0 d1 d2 k0
          simp only [Calm.wpT, Calm.wpSt, Calm.pickOps, List.getElem?_toArray, List.getElem?_cons_zero, List.getElem?_cons_succ]
          repeat (go_big_quiet_step (fail))
          refine wpQuiet_nil ?_
          intro KK hKK
          rw [if_pos (by rfl)]
          go_wp2_with fail
          refine (HH.out _ (HB.out.on HD1.out)).mono ?_; rintro _ w2 ⟨rfl, hb2⟩
          have HD2 := hide (HD1.out.trans (hb2.mono HD1.out.size))
          clear hb2
          go_wp2_with fail
          refine hKK _ _ ⟨⟨_, HD2.out⟩, rfl⟩ (fun x => ∃ y : Calm.On wr.heap.size wr, x = y.1) (fun _ h => h) ⟨⟨_, HD2.out⟩, rfl⟩ ?_
          repeat (go_big_quiet_step (fail))
          refine wpQuiet_nil ?_
          clear hKK A0 Q0 Q1 Q2 Q3 D0 D1 D2
          have HE2 := hide (HB.out.on HD2.out)
          have HK2 := hide ((HD2.out.block (w.heap.size + 1) (Nat.lt_of_succ_le hz1)).trans HBK.out)
          go_wp2
          go_roundw
          case rel => exact ⟨k + 1, by omega, by go_num, HX.out, HE2.out, HK2⟩
          case measure => simp [intOf]; omega
    · obtain rfl : k = x.r.length := by omega
      have HX := hide (HE.out.all (by omega) (by omega) (by omega))
      clear hbw
      go_wp2
      go_ret
      exact ⟨ret_bool HX.out.symm, HB.out.below⟩
end Go.Proofs.YtoehbkgdodogkaaGreat

/- Contracts over this program: whether a whole grammar may be, by the document's own function. -/
namespace Go.Proofs.YtoehbkgdodogkaaGreat
set_option maxRecDepth 100000
open Go.RowKit

theorem rules_drop {G : Gm.Gr} {rs : List Gm.Rl} {k : Nat} (h : k < rs.length) (z : Int) : Gm.rules G (rs.drop k) z = if rs[k].l < 0 ∨ z + 1 < rs[k].l ∨ Gm.rule G rs[k] = false then false else Gm.rules G (rs.drop (k + 1)) (if z < rs[k].l then rs[k].l else z) := by
  rw [List.drop_eq_getElem_cons h, Gm.rules]
theorem rules_end {G : Gm.Gr} {rs : List Gm.Rl} {k : Nat} (h : rs.length ≤ k) (z : Int) : Gm.rules G (rs.drop k) z = (z == (G.ns.length : Int) - 1) := by
  rw [List.drop_eq_nil_of_le h, Gm.rules]

set_option maxHeartbeats 8000000 in
theorem rright_any (v : Value) (G : Gm.Gr) (B : Nat) (w : World) (hg : RdGr w B v G) (hf : Gm.Fit G) (hB : B ≤ w.heap.size) :
    Calls Tryz.prog 12 #[v] w fun e w' => e = .returned (.bool (Gm.right G)) ∧ Below w.heap.size w w' := by
  have HG := hide hg
  obtain ⟨AT, cT, AN, cN, AR, cR, rfl, ⟨hlT, hmT⟩, ⟨hlN, hmN⟩, ⟨hlR, hmR⟩, _, _, ht⟩ := hg
  have HT := hide ht
  have HF := hide hf
  have HS0 := hide (One.start w #[.slice AT G.ts.length cT, .slice AN G.ns.length cN, .slice AR G.rs.length cR, .int .i64 G.st])
  have HTS := hide (fun (x : World) (h : One w #[.slice AT G.ts.length cT, .slice AN G.ns.length cN, .slice AR G.rs.length cR, .int .i64 G.st] x) => rterms_any _ G B x (HG.out.below h.below hB) HF.out (Nat.le_trans hB h.below.size))
  have HNS := hide (fun (x : World) (h : One w #[.slice AT G.ts.length cT, .slice AN G.ns.length cN, .slice AR G.rs.length cR, .int .i64 G.st] x) => rnons_any _ G B x (HG.out.below h.below hB) HF.out (Nat.le_trans hB h.below.size))
  clear ht hf
  cases q1 : Gm.terms G.ts
  · have HX : Hid (Gm.right G = false) := hide (by unfold Gm.right; rw [q1]; rfl)
    rw [HX.out]
    rw [q1] at HTS
    clear q1
    go_enter Tryz.func12, Tryz.ntmps12
    go_wp2_with fail
    refine (HTS.out _ HS0.out).mono ?_; rintro _ w2 ⟨rfl, hb⟩
    have HB2 := hide (HS0.out.on hb)
    clear hb
    go_wp2
    go_ret
    exact ⟨rfl, HB2.out.below⟩
  rw [q1] at HTS
  cases q2 : Gm.nons G
  · have HX : Hid (Gm.right G = false) := hide (by unfold Gm.right; rw [q2]; simp)
    rw [HX.out]
    rw [q2] at HNS
    clear q1 q2
    go_enter Tryz.func12, Tryz.ntmps12
    go_wp2_with fail
    refine (HTS.out _ HS0.out).mono ?_; rintro _ w2 ⟨rfl, hb⟩
    have HB2 := hide (HS0.out.on hb)
    have hz : w.heap.size < w2.heap.size := HB2.out.size
    have d0 := HB2.out.c 0 _ rfl
    have d1 := HB2.out.c 1 _ rfl
    have d2 := HB2.out.c 2 _ rfl
    have d3 := HB2.out.c 3 _ rfl
    clear hb
    go_wp2_with fail
    refine (HNS.out _ HB2.out).mono ?_; rintro _ w3 ⟨rfl, hb⟩
    have HB3 := hide (HB2.out.on hb)
    clear hb
    go_wp2
    go_ret
    exact ⟨rfl, HB3.out.below⟩
  rw [q2] at HNS
  have hlen : (G.rs.length : Int) ≤ 9223372036854775807 := by omega
  by_cases h1 : 1 ≤ G.rs.length ∧ G.rs.length ≤ 40 ∧ 0 ≤ G.st ∧ G.st < G.ns.length
  case neg =>
    have HX : Hid (Gm.right G = false) := hide (by
      unfold Gm.right
      by_cases a1 : 1 ≤ G.rs.length
      · by_cases a2 : G.rs.length ≤ 40
        · by_cases a3 : 0 ≤ G.st
          · have a4 : ¬ G.st < G.ns.length := fun a4 => h1 ⟨a1, a2, a3, a4⟩
            rw [decide_eq_false a4]; simp
          · rw [decide_eq_false a3]; simp
        · rw [decide_eq_false a2]; simp
      · rw [decide_eq_false a1]; simp)
    rw [HX.out]
    clear q1 q2
    by_cases a1 : 1 ≤ G.rs.length
    · by_cases a2 : G.rs.length ≤ 40
      · by_cases a3 : 0 ≤ G.st
        · have a4 : ¬ G.st < G.ns.length := fun a4 => h1 ⟨a1, a2, a3, a4⟩
          have a4 := Int.not_lt.1 a4
          clear h1
          go_enter Tryz.func12, Tryz.ntmps12
          go_wp2_with fail
          refine (HTS.out _ HS0.out).mono ?_; rintro _ w2 ⟨rfl, hb⟩
          have HB2 := hide (HS0.out.on hb)
          have hz : w.heap.size < w2.heap.size := HB2.out.size
          have d0 := HB2.out.c 0 _ rfl
          have d1 := HB2.out.c 1 _ rfl
          have d2 := HB2.out.c 2 _ rfl
          have d3 := HB2.out.c 3 _ rfl
          clear hb
          go_wp2_with fail
          refine (HNS.out _ HB2.out).mono ?_; rintro _ w3 ⟨rfl, hb⟩
          have HB3 := hide (HB2.out.on hb)
          have hz3 : w.heap.size < w3.heap.size := HB3.out.size
          have e1 := HB3.out.c 1 _ rfl
          have e2 := HB3.out.c 2 _ rfl
          have e3 := HB3.out.c 3 _ rfl
          clear hb
          go_wp2
          go_ret
          exact ⟨rfl, HB3.out.below⟩
        · have a3 := Int.not_le.1 a3
          clear h1
          go_enter Tryz.func12, Tryz.ntmps12
          go_wp2_with fail
          refine (HTS.out _ HS0.out).mono ?_; rintro _ w2 ⟨rfl, hb⟩
          have HB2 := hide (HS0.out.on hb)
          have hz : w.heap.size < w2.heap.size := HB2.out.size
          have d0 := HB2.out.c 0 _ rfl
          have d1 := HB2.out.c 1 _ rfl
          have d2 := HB2.out.c 2 _ rfl
          have d3 := HB2.out.c 3 _ rfl
          clear hb
          go_wp2_with fail
          refine (HNS.out _ HB2.out).mono ?_; rintro _ w3 ⟨rfl, hb⟩
          have HB3 := hide (HB2.out.on hb)
          have hz3 : w.heap.size < w3.heap.size := HB3.out.size
          have e1 := HB3.out.c 1 _ rfl
          have e2 := HB3.out.c 2 _ rfl
          have e3 := HB3.out.c 3 _ rfl
          clear hb
          go_wp2
          go_ret
          exact ⟨rfl, HB3.out.below⟩
      · have a2 := Nat.not_le.1 a2
        clear h1
        go_enter Tryz.func12, Tryz.ntmps12
        go_wp2_with fail
        refine (HTS.out _ HS0.out).mono ?_; rintro _ w2 ⟨rfl, hb⟩
        have HB2 := hide (HS0.out.on hb)
        have hz : w.heap.size < w2.heap.size := HB2.out.size
        have d0 := HB2.out.c 0 _ rfl
        have d1 := HB2.out.c 1 _ rfl
        have d2 := HB2.out.c 2 _ rfl
        have d3 := HB2.out.c 3 _ rfl
        clear hb
        go_wp2_with fail
        refine (HNS.out _ HB2.out).mono ?_; rintro _ w3 ⟨rfl, hb⟩
        have HB3 := hide (HB2.out.on hb)
        have hz3 : w.heap.size < w3.heap.size := HB3.out.size
        have e2 := HB3.out.c 2 _ rfl
        clear hb
        go_wp2
        go_ret
        exact ⟨rfl, HB3.out.below⟩
    · have a1 : G.rs.length < 1 := by omega
      clear h1
      go_enter Tryz.func12, Tryz.ntmps12
      go_wp2_with fail
      refine (HTS.out _ HS0.out).mono ?_; rintro _ w2 ⟨rfl, hb⟩
      have HB2 := hide (HS0.out.on hb)
      have hz : w.heap.size < w2.heap.size := HB2.out.size
      have d0 := HB2.out.c 0 _ rfl
      have d1 := HB2.out.c 1 _ rfl
      have d2 := HB2.out.c 2 _ rfl
      have d3 := HB2.out.c 3 _ rfl
      clear hb
      go_wp2_with fail
      refine (HNS.out _ HB2.out).mono ?_; rintro _ w3 ⟨rfl, hb⟩
      have HB3 := hide (HB2.out.on hb)
      have hz3 : w.heap.size < w3.heap.size := HB3.out.size
      have e2 := HB3.out.c 2 _ rfl
      clear hb
      go_wp2
      go_ret
      exact ⟨rfl, HB3.out.below⟩
  have HRR : Hid (Gm.right G = Gm.rules G (G.rs.drop 0) (-1)) := hide (by unfold Gm.right; rw [q1, q2, decide_eq_true h1.1, decide_eq_true h1.2.1, decide_eq_true h1.2.2.1, decide_eq_true h1.2.2.2]; rfl)
  clear q1 q2
  obtain ⟨g1, g2, g3, g4⟩ := h1
  go_enter Tryz.func12, Tryz.ntmps12
  go_wp2_with fail
  refine (HTS.out _ HS0.out).mono ?_; rintro _ w2 ⟨rfl, hb⟩
  have HB2 := hide (HS0.out.on hb)
  have hz : w.heap.size < w2.heap.size := HB2.out.size
  have d0 := HB2.out.c 0 _ rfl
  have d1 := HB2.out.c 1 _ rfl
  have d2 := HB2.out.c 2 _ rfl
  have d3 := HB2.out.c 3 _ rfl
  clear hb
  go_wp2_with fail
  refine (HNS.out _ HB2.out).mono ?_; rintro _ w3 ⟨rfl, hb⟩
  have HB3 := hide (HB2.out.on hb)
  have hz3 : w.heap.size < w3.heap.size := HB3.out.size
  have e1 := HB3.out.c 1 _ rfl
  have e2 := HB3.out.c 2 _ rfl
  have e3 := HB3.out.c 3 _ rfl
  clear hb d0 d1 d2 d3 hz HB2
  go_wp2
  go_loopw [3, 4] (fun vt vi wr => ∃ (k : Nat) (z : Int), k ≤ G.rs.length ∧ vi = .int .i64 k ∧ vt = .int .i64 z ∧ (-1 ≤ z ∧ z ≤ 100 + k) ∧ Hid (Gm.right G = Gm.rules G (G.rs.drop k) z) ∧ One w #[.slice AT G.ts.length cT, .slice AN G.ns.length cN, .slice AR G.rs.length cR, .int .i64 G.st] wr) (fun _ vi _ => G.rs.length - (intOf vi).toNat)
  case atStart => exact ⟨0, -1, Nat.zero_le _, rfl, rfl, by omega, HRR, HB3.out⟩
  case round =>
    clear e1 e2 e3 hz3 HB3
    obtain ⟨k, z, hk, rfl, rfl, hzz, HE, hb⟩ := hrel
    have HB := hide hb
    have hz : w.heap.size < wr.heap.size := hb.size
    have hbw := hb.below
    have q0 := hb.c 0 _ rfl
    have q1 := hb.c 1 _ rfl
    have q2 := hb.c 2 _ rfl
    have q3 := hb.c 3 _ rfl
    clear hb
    by_cases hlt : k < G.rs.length
    · obtain ⟨g, o, rfl, hgb, hc⟩ := HT.out (by omega)
      obtain ⟨k0, ⟨A', c', k1, _, _, hri⟩, k2⟩ := hc k hlt
      have k0 := (hbw.cell (p := ⟨g, o + k * 3, none⟩) (Nat.lt_of_lt_of_le hgb hB)).trans k0
      have k1 := (hbw.cell (p := ⟨g, o + k * 3 + 1, none⟩) (Nat.lt_of_lt_of_le hgb hB)).trans k1
      have k2 := (hbw.cell (p := ⟨g, o + k * 3 + 2, none⟩) (Nat.lt_of_lt_of_le hgb hB)).trans k2
      have hgs : g < wr.heap.size := by omega
      have hft := HF.out.r _ (List.getElem_mem hlt)
      have HRU := hide (fun (y : World) (h : One w #[.slice AT G.ts.length cT, .slice AN G.ns.length cN, .slice (some ⟨g, o, none⟩) G.rs.length cR, .int .i64 G.st] y) => rrule_any _ G B G.rs[k] A' c' y (HG.out.below h.below hB) (hri.keep fun g o hg => h.below.cell (p := ⟨g, o, none⟩) (Nat.lt_of_lt_of_le hg hB)) hft.2.2 (Nat.le_trans hB h.below.size))
      have HN := hide (HE.out.trans (rules_drop hlt z))
      have hil := hft.1
      unfold Gm.In at hil
      clear hc hbw hft hri
      generalize G.rs[k] = x at *
      by_cases c1 : x.l < 0
      · have HX : Hid (Gm.right G = false) := hide (HN.out.trans (if_pos (.inl c1)))
        go_wp2
        go_ret
        exact ⟨ret_bool HX.out.symm, (HB.out.alloc _).below⟩
      have c1' := Int.not_lt.1 c1
      by_cases c2 : z + 1 < x.l
      · have HX : Hid (Gm.right G = false) := hide (HN.out.trans (if_pos (.inr (.inl c2))))
        go_wp2
        go_ret
        exact ⟨ret_bool HX.out.symm, (HB.out.alloc _).below⟩
      have c2' := Int.not_lt.1 c2
      cases c3 : Gm.rule G x
      · have HX : Hid (Gm.right G = false) := hide (HN.out.trans (if_pos (.inr (.inr c3))))
        rw [c3] at HRU
        clear c3 c1 c2
        go_wp2_with fail
        refine (HRU.out _ (HB.out.alloc _)).mono ?_; rintro _ w4 ⟨rfl, hb4⟩
        have HB4 := hide ((HB.out.alloc _).on hb4)
        clear hb4
        go_wp2
        go_ret
        exact ⟨ret_bool HX.out.symm, HB4.out.below⟩
      · have HN2 := hide (HN.out.trans (if_neg (by rw [c3]; simp; omega)))
        rw [c3] at HRU
        clear c3 c1 c2
        by_cases c4 : z < x.l
        · have HX := hide (HN2.out.trans (by rw [if_pos c4]))
          go_wp2_with fail
          refine (HRU.out _ (HB.out.alloc _)).mono ?_; rintro _ w4 ⟨rfl, hb4⟩
          have HB4 := hide ((HB.out.alloc _).on hb4)
          have hbb := (hb4.block wr.heap.size (by simp)).trans (heap_alloc_new wr _)
          have hz4 : wr.heap.size < w4.heap.size := (Array.getElem?_eq_some_iff.1 hbb).1
          have f0 := cell_of_row w4 _ 0 _ _ _ hbb
          clear hb4 hbb
          go_wp2
          go_roundw
          case rel => exact ⟨k + 1, x.l, by omega, by go_num, rfl, by omega, HX, HB4.out⟩
          case measure => simp [intOf]; omega
        · have HX := hide (HN2.out.trans (by rw [if_neg c4]))
          have c4' := Int.not_lt.1 c4
          clear c4
          go_wp2_with fail
          refine (HRU.out _ (HB.out.alloc _)).mono ?_; rintro _ w4 ⟨rfl, hb4⟩
          have HB4 := hide ((HB.out.alloc _).on hb4)
          have hbb := (hb4.block wr.heap.size (by simp)).trans (heap_alloc_new wr _)
          have hz4 : wr.heap.size < w4.heap.size := (Array.getElem?_eq_some_iff.1 hbb).1
          have f0 := cell_of_row w4 _ 0 _ _ _ hbb
          clear hb4 hbb
          go_wp2
          go_roundw
          case rel => exact ⟨k + 1, z, by omega, by go_num, rfl, by omega, HX, HB4.out⟩
          case measure => simp [intOf]; omega
    · obtain rfl : k = G.rs.length := by omega
      have HX := hide (HE.out.trans (rules_end (Nat.le_refl _) z))
      clear hbw
      go_wp2
      go_ret
      exact ⟨ret_bool HX.out.symm, HB.out.below⟩
end Go.Proofs.YtoehbkgdodogkaaGreat
