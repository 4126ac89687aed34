/- Contracts over this program: whether the rules of a grammar may be, by cfg's own functions. -/
import Derived.Test.YtoehbkgdodogkaaGreatKE
import Derived.Test.YtoehbkgdodogkaaGreatKA
namespace Go.Proofs.YtoehbkgdodogkaaGreat
set_option maxRecDepth 100000
open Go.RowKit

def isT (z : Int) : Bool := decide (0 ≤ z)
def noHas (G : Gm.Gr) (z : Int) : Bool := !Gm.has G z

set_option maxHeartbeats 2000000 in
theorem index_term (A : Option Addr) (c B : Nat) (l : List Int) (w : World) (hr : RdI w B A l) (hB : B ≤ w.heap.size) (hlen : (l.length : Int) ≤ 9223372036854775807) :
    Calls Tryz.prog 71 #[.slice A l.length c, .func (Fn.func 52) #[] #[]] w fun e w' => ∃ n : Int, e = .returned (.int .i64 n) ∧ decide (0 ≤ n) = l.any isT ∧ Below w.heap.size w w' := by
  have HT := hide hr
  have HB0 := hide (Below.refl w.heap.size w)
  clear hr
  go_enter Tryz.func71, Tryz.ntmps71
  go_wp2
  go_loopw [8] (fun vi wr => ∃ (k : Nat), k ≤ l.length ∧ vi = .int .i64 k ∧ Hid (AllK l (fun z => !isT z) k) ∧ Below w.heap.size w wr) (fun vi _ => l.length - (intOf vi).toNat)
  case atStart => exact ⟨0, Nat.zero_le _, rfl, hide (AllK.zero _ _), HB0.out⟩
  case round =>
    obtain ⟨k, hk, rfl, HA, hb⟩ := hrel
    have HB := hide hb
    by_cases hlt : k < l.length
    · obtain ⟨g, o, rfl, hgb, hc⟩ := HT.out (by omega)
      have k0 := (hb.cell (p := ⟨g, o + k, none⟩) (Nat.lt_of_lt_of_le hgb hB)).trans (hc k hlt)
      rw [L.gd_lt hlt] at k0
      have HC := hide (fun (x : World) (_ : Below w.heap.size w x) => (isTerm_any l[k] x).mono (fun e w' h => ⟨h.1, by rw [h.2]; exact Below.refl _ _⟩ : ∀ e w', _ → (e = .returned (.bool (isT l[k])) ∧ Below x.heap.size x w')))
      have HN := hide (fun h => HA.out.next hlt h)
      have HY := hide (fun (h : isT l[k] = true) => (List.any_eq_true.2 ⟨_, List.getElem_mem hlt, h⟩ : l.any isT = true))
      clear hb hc
      obtain ⟨z, qz⟩ : ∃ z, z = l[k] := ⟨_, rfl⟩
      rw [← qz] at k0 HC HN HY
      clear qz
      cases q : isT z
      · have HX := hide (HN.out (by simp only [q]; rfl))
        rw [q] at HC
        clear q HN HY
        go_wp2_with fail
        refine (HC.out _ HB.out).mono ?_; rintro _ w2 ⟨rfl, hb2⟩
        have HB2 := hide (HB.out.trans (hb2.mono HB.out.size))
        clear hb2
        go_wp2
        go_roundw
        case rel => exact ⟨k + 1, by omega, by go_num, HX, HB2.out⟩
        case measure => simp [intOf]; omega
      · have HX := hide (HY.out q)
        rw [q] at HC
        clear q HN HY
        go_wp2_with fail
        refine (HC.out _ HB.out).mono ?_; rintro _ w2 ⟨rfl, hb2⟩
        have HB2 := hide (HB.out.trans (hb2.mono HB.out.size))
        clear hb2
        go_wp2
        go_ret
        exact ⟨k, rfl, by rw [HX.out]; simp, HB2.out⟩
    · obtain rfl : k = l.length := by omega
      have HX : Hid (l.any isT = false) := hide (by
        rw [List.any_eq_false]
        intro z hz
        obtain ⟨i, hi, rfl⟩ := List.getElem_of_mem hz
        have := HA.out i hi hi
        simpa using this)
      clear hb
      go_wp2
      go_ret
      exact ⟨-1, rfl, by rw [HX.out]; rfl, HB.out⟩

theorem contains_term (A : Option Addr) (c B : Nat) (l : List Int) (w : World) (hr : RdI w B A l) (hB : B ≤ w.heap.size) (hlen : (l.length : Int) ≤ 9223372036854775807) :
    Calls Tryz.prog 50 #[.slice A l.length c, .func (Fn.func 52) #[] #[]] w fun e w' => e = .returned (.bool (l.any isT)) ∧ Below w.heap.size w w' := by
  have HI := hide (index_term A c B l w hr hB hlen)
  clear hr hlen
  go_enter Tryz.func50, Tryz.ntmps50
  go_wp2_with fail
  refine HI.out.mono ?_; rintro _ w2 ⟨n, rfl, hn, hb⟩
  have HN := hide hn
  have HB := hide hb
  clear hn hb
  go_wp2
  go_ret
  exact ⟨ret_bool HN.out, HB.out⟩

theorem hasNot_any (v : Value) (G : Gm.Gr) (B gb : Nat) (z : Int) (a : Array Value) (hv : v = .agg a) (hz : Gm.In z) (w : World) (hg : RdGr w B v G) (hb : w.heap[gb]? = some (.cells a 26 (0, 0))) :
    Calls Tryz.prog 51 #[.int .i64 z, .pointer (some ⟨gb, 0, none⟩)] w fun e w' => e = .returned (.bool (noHas G z)) ∧ Below w.heap.size w w' := by
  have HH := hide (has_any v G B z hz w hg)
  obtain ⟨AT, cT, AN, cN, AR, cR, rfl, _⟩ := hg
  injection hv with hv
  subst hv
  have c0 := cell_of_row w gb 0 _ _ _ hb
  have c1 := cell_of_row w gb 1 _ _ _ hb
  have c2 := cell_of_row w gb 2 _ _ _ hb
  have c3 := cell_of_row w gb 3 _ _ _ hb
  clear hb hz
  go_enter Tryz.func51, Tryz.ntmps51
  go_wp2_with fail
  refine HH.out.mono ?_; rintro _ w2 ⟨rfl, hb⟩
  have HB := hide hb
  clear hb
  go_wp2
  go_ret
  exact ⟨rfl, HB.out⟩

set_option maxHeartbeats 2000000 in
theorem index_has (A : Option Addr) (c B : Nat) (l : List Int) (w : World) (G : Gm.Gr) (gb B2 : Nat) (a : Array Value) (hin : ∀ z ∈ l, Gm.In z) (hg : ∀ x : World, Below w.heap.size w x → RdGr x B2 (.agg a) G) (hgb : ∀ x : World, Below w.heap.size w x → x.heap[gb]? = some (.cells a 26 (0, 0))) (hr : RdI w B A l) (hB : B ≤ w.heap.size) (hlen : (l.length : Int) ≤ 9223372036854775807) :
    Calls Tryz.prog 71 #[.slice A l.length c, .func (Fn.func 51) #[] #[.pointer (some ⟨gb, 0, none⟩)]] w fun e w' => ∃ n : Int, e = .returned (.int .i64 n) ∧ decide (0 ≤ n) = l.any (noHas G) ∧ Below w.heap.size w w' := by
  have HT := hide hr
  have HB0 := hide (Below.refl w.heap.size w)
  have HIN := hide hin
  have HG := hide hg
  have HGB := hide hgb
  clear hin hg hgb
  clear hr
  go_enter Tryz.func71, Tryz.ntmps71
  go_wp2
  go_loopw [8] (fun vi wr => ∃ (k : Nat), k ≤ l.length ∧ vi = .int .i64 k ∧ Hid (AllK l (fun z => !(noHas G) z) k) ∧ Below w.heap.size w wr) (fun vi _ => l.length - (intOf vi).toNat)
  case atStart => exact ⟨0, Nat.zero_le _, rfl, hide (AllK.zero _ _), HB0.out⟩
  case round =>
    obtain ⟨k, hk, rfl, HA, hb⟩ := hrel
    have HB := hide hb
    by_cases hlt : k < l.length
    · obtain ⟨g, o, rfl, hgb, hc⟩ := HT.out (by omega)
      have k0 := (hb.cell (p := ⟨g, o + k, none⟩) (Nat.lt_of_lt_of_le hgb hB)).trans (hc k hlt)
      rw [L.gd_lt hlt] at k0
      have HC := hide (fun (x : World) (h : Below w.heap.size w x) => hasNot_any (.agg a) G B2 gb l[k] a rfl (HIN.out _ (List.getElem_mem hlt)) x (HG.out x h) (HGB.out x h))
      have HN := hide (fun h => HA.out.next hlt h)
      have HY := hide (fun (h : (noHas G) l[k] = true) => (List.any_eq_true.2 ⟨_, List.getElem_mem hlt, h⟩ : l.any (noHas G) = true))
      clear hb hc
      obtain ⟨z, qz⟩ : ∃ z, z = l[k] := ⟨_, rfl⟩
      rw [← qz] at k0 HC HN HY
      clear qz
      cases q : (noHas G) z
      · have HX := hide (HN.out (by simp only [q]; rfl))
        rw [q] at HC
        clear q HN HY
        go_wp2_with fail
        refine (HC.out _ HB.out).mono ?_; rintro _ w2 ⟨rfl, hb2⟩
        have HB2 := hide (HB.out.trans (hb2.mono HB.out.size))
        clear hb2
        go_wp2
        go_roundw
        case rel => exact ⟨k + 1, by omega, by go_num, HX, HB2.out⟩
        case measure => simp [intOf]; omega
      · have HX := hide (HY.out q)
        rw [q] at HC
        clear q HN HY
        go_wp2_with fail
        refine (HC.out _ HB.out).mono ?_; rintro _ w2 ⟨rfl, hb2⟩
        have HB2 := hide (HB.out.trans (hb2.mono HB.out.size))
        clear hb2
        go_wp2
        go_ret
        exact ⟨k, rfl, by rw [HX.out]; simp, HB2.out⟩
    · obtain rfl : k = l.length := by omega
      have HX : Hid (l.any (noHas G) = false) := hide (by
        rw [List.any_eq_false]
        intro z hz
        obtain ⟨i, hi, rfl⟩ := List.getElem_of_mem hz
        have := HA.out i hi hi
        simpa using this)
      clear hb
      go_wp2
      go_ret
      exact ⟨-1, rfl, by rw [HX.out]; rfl, HB.out⟩

theorem contains_has (A : Option Addr) (c B : Nat) (l : List Int) (w : World) (G : Gm.Gr) (gb B2 : Nat) (a : Array Value) (hin : ∀ z ∈ l, Gm.In z) (hg : ∀ x : World, Below w.heap.size w x → RdGr x B2 (.agg a) G) (hgb : ∀ x : World, Below w.heap.size w x → x.heap[gb]? = some (.cells a 26 (0, 0))) (hr : RdI w B A l) (hB : B ≤ w.heap.size) (hlen : (l.length : Int) ≤ 9223372036854775807) :
    Calls Tryz.prog 50 #[.slice A l.length c, .func (Fn.func 51) #[] #[.pointer (some ⟨gb, 0, none⟩)]] w fun e w' => e = .returned (.bool (l.any (noHas G))) ∧ Below w.heap.size w w' := by
  have HI := hide (index_has A c B l w G gb B2 a hin hg hgb hr hB hlen)
  clear hr hlen hin hg hgb
  go_enter Tryz.func50, Tryz.ntmps50
  go_wp2_with fail
  refine HI.out.mono ?_; rintro _ w2 ⟨n, rfl, hn, hb⟩
  have HN := hide hn
  have HB := hide hb
  clear hn hb
  go_wp2
  go_ret
  exact ⟨ret_bool HN.out, HB.out⟩
end Go.Proofs.YtoehbkgdodogkaaGreat

/- Contracts over this program: whether a rule, all rules, and a whole grammar may be, by cfg's own functions. -/
namespace Go.Proofs.YtoehbkgdodogkaaGreat
set_option maxRecDepth 100000
open Go.RowKit

/-- May a rule be? -/
def ruB (G : Gm.Gr) (x : Gm.Rl) : Bool := decide (x.r.length ≤ 6) && !x.r.any (noHas G) && (if x.p = -1 then !x.r.any isT else isT x.p && Gm.has G x.p)

set_option maxHeartbeats 4000000 in
theorem rightRule_any (v : Value) (G : Gm.Gr) (B : Nat) (x : Gm.Rl) (A : Option Addr) (c : Nat) (w : World) (hg : RdGr w B v G) (hr : RdI w B A x.r) (hx : ∀ z ∈ x.r, Gm.In z) (hp : Gm.In x.p) (hB : B ≤ w.heap.size) :
    Calls Tryz.prog 35 #[v, .agg #[.int .i64 x.l, .slice A x.r.length c, .int .i64 x.p]] w fun e w' => e = .returned (.bool (ruB G x)) ∧ Below w.heap.size w w' := by
  have HG := hide hg
  obtain ⟨AT, cT, AN, cN, AR, cR, rfl, _⟩ := hg
  have HB0 := hide ((One.start w #[.slice AT G.ts.length cT, .slice AN G.ns.length cN, .slice AR G.rs.length cR, .int .i64 G.st]).alloc (.cells #[.int .i64 x.l, .slice A x.r.length c, .int .i64 x.p] 43))
  have HK0 : Hid (((w.alloc (.cells #[.slice AT G.ts.length cT, .slice AN G.ns.length cN, .slice AR G.rs.length cR, .int .i64 G.st] 26)).alloc (.cells #[.int .i64 x.l, .slice A x.r.length c, .int .i64 x.p] 43)).heap[w.heap.size + 1]? = some (.cells #[.int .i64 x.l, .slice A x.r.length c, .int .i64 x.p] 43 (0, 0))) := hide (by
    have := heap_alloc_new (w.alloc (.cells #[.slice AT G.ts.length cT, .slice AN G.ns.length cN, .slice AR G.rs.length cR, .int .i64 G.st] 26)) (.cells #[.int .i64 x.l, .slice A x.r.length c, .int .i64 x.p] 43)
    simpa using this)
  by_cases h6 : 6 < x.r.length
  · have HX : Hid (ruB G x = false) := hide (by unfold ruB; rw [decide_eq_false (show ¬ x.r.length ≤ 6 by omega)]; rfl)
    rw [HX.out]
    clear hr hx hp
    go_enter Tryz.func35, Tryz.ntmps35
    go_wp2
    go_ret
    exact ⟨rfl, HB0.out.below⟩
  have HOB := hide (fun (y : World) (h : One w #[.slice AT G.ts.length cT, .slice AN G.ns.length cN, .slice AR G.rs.length cR, .int .i64 G.st] y) => (Below.block h w.heap.size (by omega)).trans (heap_alloc_new w _))
  have HCF := hide (fun (y : World) (h : One w #[.slice AT G.ts.length cT, .slice AN G.ns.length cN, .slice AR G.rs.length cR, .int .i64 G.st] y) => contains_has A c B x.r y G w.heap.size B _ hx (fun z hz => HG.out.below (h.on hz).below hB) (fun z hz => HOB.out _ (h.on hz)) (hr.keep fun g o hg => h.below.cell (p := ⟨g, o, none⟩) (Nat.lt_of_lt_of_le hg hB)) (Nat.le_trans hB h.below.size) (by omega))
  have HCT := hide (fun (y : World) (h : One w #[.slice AT G.ts.length cT, .slice AN G.ns.length cN, .slice AR G.rs.length cR, .int .i64 G.st] y) => contains_term A c B x.r y (hr.keep fun g o hg => h.below.cell (p := ⟨g, o, none⟩) (Nat.lt_of_lt_of_le hg hB)) (Nat.le_trans hB h.below.size) (by omega))
  have HIT := hide (fun y => isTerm_any x.p y)
  have HHS := hide (fun (y : World) (h : One w #[.slice AT G.ts.length cT, .slice AN G.ns.length cN, .slice AR G.rs.length cR, .int .i64 G.st] y) => has_any _ G B x.p hp y (HG.out.below h.below hB))
  have HRU : Hid (ruB G x = (!x.r.any (noHas G) && (if x.p = -1 then !x.r.any isT else isT x.p && Gm.has G x.p))) := hide (by unfold ruB; rw [decide_eq_true (show x.r.length ≤ 6 by omega)]; rfl)
  clear hr hx hp HG
  cases q1 : x.r.any (noHas G)
  case true =>
    have HX : Hid (ruB G x = false) := hide (by rw [HRU.out, q1]; rfl)
    rw [q1] at HCF
    rw [HX.out]
    clear q1 HRU
    go_enter Tryz.func35, Tryz.ntmps35
    go_wp2_with fail
    refine (HCF.out _ HB0.out).mono ?_; rintro _ w2 ⟨rfl, hb⟩
    have HB2 := hide (HB0.out.on hb)
    clear hb
    go_wp2
    go_ret
    exact ⟨rfl, HB2.out.below⟩
  rw [q1] at HCF
  have HR2 : Hid (ruB G x = (if x.p = -1 then !x.r.any isT else isT x.p && Gm.has G x.p)) := hide (by rw [HRU.out, q1]; rfl)
  clear q1 HRU
  by_cases h1 : x.p = -1
  · have HX := hide (HR2.out.trans (if_pos h1))
    have e1 : (x.p == -1) = true := beq_iff_eq.2 h1
    rw [HX.out]
    generalize x.r.any isT = b at *
    clear h1 HIT HHS HR2 HX
    go_enter Tryz.func35, Tryz.ntmps35
    go_wp2_with fail
    refine (HCF.out _ HB0.out).mono ?_; rintro _ w2 ⟨rfl, hb⟩
    have HB2 := hide (HB0.out.on hb)
    have hbb := (hb.block (w.heap.size + 1) (by simp)).trans HK0.out
    have d1 := cell_of_row w2 _ 1 _ _ _ hbb
    have d2 := cell_of_row w2 _ 2 _ _ _ hbb
    have hz : w.heap.size + 1 < w2.heap.size := (Array.getElem?_eq_some_iff.1 hbb).1
    clear hb hbb
    go_wp2_with fail
    refine (HCT.out _ HB2.out).mono ?_; rintro _ w3 ⟨rfl, hb⟩
    have HB3 := hide (HB2.out.on hb)
    clear hb
    go_wp2
    go_ret
    exact ⟨rfl, HB3.out.below⟩
  · have HX := hide (HR2.out.trans (if_neg h1))
    have e1 : (x.p == -1) = false := beq_eq_false_iff_ne.2 h1
    rw [HX.out]
    unfold isT
    clear h1 HCT HR2 HX
    cases q2 : decide (0 ≤ x.p)
    · rw [q2] at HIT
      clear q2 HHS
      go_enter Tryz.func35, Tryz.ntmps35
      go_wp2_with fail
      refine (HCF.out _ HB0.out).mono ?_; rintro _ w2 ⟨rfl, hb⟩
      have HB2 := hide (HB0.out.on hb)
      have hbb := (hb.block (w.heap.size + 1) (by simp)).trans HK0.out
      have d1 := cell_of_row w2 _ 1 _ _ _ hbb
      have d2 := cell_of_row w2 _ 2 _ _ _ hbb
      have hz : w.heap.size + 1 < w2.heap.size := (Array.getElem?_eq_some_iff.1 hbb).1
      clear hb hbb
      go_wp2_with fail
      refine (HIT.out _).mono ?_; rintro _ _ ⟨rfl, rfl⟩
      go_wp2
      go_ret
      exact ⟨rfl, HB2.out.below⟩
    · rw [q2] at HIT
      clear q2
      generalize Gm.has G x.p = b at *
      go_enter Tryz.func35, Tryz.ntmps35
      go_wp2_with fail
      refine (HCF.out _ HB0.out).mono ?_; rintro _ w2 ⟨rfl, hb⟩
      have HB2 := hide (HB0.out.on hb)
      have hbb := (hb.block (w.heap.size + 1) (by simp)).trans HK0.out
      have d1 := cell_of_row w2 _ 1 _ _ _ hbb
      have d2 := cell_of_row w2 _ 2 _ _ _ hbb
      have hz : w.heap.size + 1 < w2.heap.size := (Array.getElem?_eq_some_iff.1 hbb).1
      have q0 := HB2.out.c 0 _ rfl
      have q1 := HB2.out.c 1 _ rfl
      have q2 := HB2.out.c 2 _ rfl
      have q3 := HB2.out.c 3 _ rfl
      clear hb hbb
      go_wp2_with fail
      refine (HIT.out _).mono ?_; rintro _ w5 ⟨rfl, hw5⟩
      subst hw5
      go_wp2_with fail
      refine (HHS.out _ HB2.out).mono ?_; rintro _ w3 ⟨rfl, hb⟩
      have HB3 := hide (HB2.out.on hb)
      clear hb
      go_wp2
      go_ret
      exact ⟨ret_bool (by simp), HB3.out.below⟩

/-- May rules be, behind ones of which so many nonterminals came? -/
def rrF (G : Gm.Gr) : List Gm.Rl → Int → Bool
  | [], n => n == G.ns.length
  | x :: r, n => if x.l < 0 ∨ n < x.l ∨ ruB G x = false then false else rrF G r (max n (x.l + 1))
theorem rrF_drop {G : Gm.Gr} {rs : List Gm.Rl} {k : Nat} (h : k < rs.length) (n : Int) : rrF G (rs.drop k) n = if rs[k].l < 0 ∨ n < rs[k].l ∨ ruB G rs[k] = false then false else rrF G (rs.drop (k + 1)) (max n (rs[k].l + 1)) := by
  rw [List.drop_eq_getElem_cons h, rrF]
theorem rrF_end {G : Gm.Gr} {rs : List Gm.Rl} {k : Nat} (h : rs.length ≤ k) (n : Int) : rrF G (rs.drop k) n = (n == (G.ns.length : Int)) := by
  rw [List.drop_eq_nil_of_le h, rrF]

def rrB (G : Gm.Gr) : Bool := decide (G.rs.length ≤ 40) && rrF G G.rs 0
set_option maxHeartbeats 4000000 in
theorem rightRules_any (v : Value) (G : Gm.Gr) (B : Nat) (w : World) (hg : RdGr w B v G) (hf : Gm.Fit G) (hB : B ≤ w.heap.size) :
    Calls Tryz.prog 20 #[v] w fun e w' => e = .returned (.bool (rrB G)) ∧ Below w.heap.size w w' := by
  have HG := hide hg
  obtain ⟨AT, cT, AN, cN, AR, cR, rfl, ⟨hlT, hmT⟩, ⟨hlN, hmN⟩, ⟨hlR, hmR⟩, _, _, ht⟩ := hg
  have HT := hide ht
  have HF := hide hf
  have HS0 := hide (One.start w #[.slice AT G.ts.length cT, .slice AN G.ns.length cN, .slice AR G.rs.length cR, .int .i64 G.st])
  have hlenN : (G.ns.length : Int) ≤ 9223372036854775807 := by omega
  clear ht hf
  by_cases h40 : 40 < G.rs.length
  · have HX : Hid (rrB G = false) := hide (by unfold rrB; rw [decide_eq_false (show ¬ G.rs.length ≤ 40 by omega)]; rfl)
    rw [HX.out]
    go_enter Tryz.func20, Tryz.ntmps20
    go_wp2
    go_ret
    exact ⟨rfl, HS0.out.below⟩
  have HRR : Hid (rrB G = rrF G (G.rs.drop 0) 0) := hide (by unfold rrB; rw [decide_eq_true (show G.rs.length ≤ 40 by omega)]; rfl)
  go_enter Tryz.func20, Tryz.ntmps20
  go_wp2
  go_loopw [3, 13] (fun vt vi wr => ∃ (k : Nat) (z : Int), k ≤ G.rs.length ∧ vi = .int .i64 k ∧ vt = .int .i64 z ∧ (0 ≤ z ∧ z ≤ 100 + k) ∧ Hid (rrB G = rrF G (G.rs.drop k) z) ∧ One w #[.slice AT G.ts.length cT, .slice AN G.ns.length cN, .slice AR G.rs.length cR, .int .i64 G.st] wr) (fun _ vi _ => G.rs.length - (intOf vi).toNat)
  case atStart => exact ⟨0, 0, Nat.zero_le _, rfl, rfl, by omega, HRR, HS0.out⟩
  case round =>
    obtain ⟨k, z, hk, rfl, rfl, hzz, HE, hb⟩ := hrel
    have HB := hide hb
    have hz : w.heap.size < wr.heap.size := hb.size
    have hbw := hb.below
    have q0 := hb.c 0 _ rfl
    have q1 := hb.c 1 _ rfl
    have q2 := hb.c 2 _ rfl
    have q3 := hb.c 3 _ rfl
    clear hb
    by_cases hlt : k < G.rs.length
    · obtain ⟨g, o, rfl, hgb, hc⟩ := HT.out (by omega)
      obtain ⟨k0, ⟨A', c', k1, _, _, hri⟩, k2⟩ := hc k hlt
      have k0 := (hbw.cell (p := ⟨g, o + k * 3, none⟩) (Nat.lt_of_lt_of_le hgb hB)).trans k0
      have k1 := (hbw.cell (p := ⟨g, o + k * 3 + 1, none⟩) (Nat.lt_of_lt_of_le hgb hB)).trans k1
      have k2 := (hbw.cell (p := ⟨g, o + k * 3 + 2, none⟩) (Nat.lt_of_lt_of_le hgb hB)).trans k2
      have hgs : g < wr.heap.size := by omega
      have hft := HF.out.r _ (List.getElem_mem hlt)
      have HRU := hide (fun (y : World) (h : One w #[.slice AT G.ts.length cT, .slice AN G.ns.length cN, .slice (some ⟨g, o, none⟩) G.rs.length cR, .int .i64 G.st] y) => rightRule_any _ G B G.rs[k] A' c' y (HG.out.below h.below hB) (hri.keep fun g o hg => h.below.cell (p := ⟨g, o, none⟩) (Nat.lt_of_lt_of_le hg hB)) hft.2.2 hft.2.1 (Nat.le_trans hB h.below.size))
      have HN := hide (HE.out.trans (rrF_drop hlt z))
      have hil := hft.1
      unfold Gm.In at hil
      clear hc hbw hft hri
      generalize G.rs[k] = x at *
      by_cases c1 : x.l < 0
      · have HX : Hid (rrB G = false) := hide (HN.out.trans (if_pos (.inl c1)))
        go_wp2
        go_ret
        exact ⟨ret_bool HX.out.symm, (HB.out.alloc _).below⟩
      have c1' := Int.not_lt.1 c1
      by_cases c2 : z < x.l
      · have HX : Hid (rrB G = false) := hide (HN.out.trans (if_pos (.inr (.inl c2))))
        go_wp2
        go_ret
        exact ⟨ret_bool HX.out.symm, (HB.out.alloc _).below⟩
      have c2' := Int.not_lt.1 c2
      cases c3 : ruB G x
      · have HX : Hid (rrB G = false) := hide (HN.out.trans (if_pos (.inr (.inr c3))))
        rw [c3] at HRU
        clear c3 c1 c2
        go_wp2_with fail
        refine (HRU.out _ (HB.out.alloc _)).mono ?_; rintro _ w4 ⟨rfl, hb4⟩
        have HB4 := hide ((HB.out.alloc _).on hb4)
        clear hb4
        go_wp2
        go_ret
        exact ⟨ret_bool HX.out.symm, HB4.out.below⟩
      · have HX := hide (HN.out.trans (if_neg (by rw [c3]; simp; omega)))
        rw [c3] at HRU
        clear c3 c1 c2
        go_wp2_with fail
        refine (HRU.out _ (HB.out.alloc _)).mono ?_; rintro _ w4 ⟨rfl, hb4⟩
        have HB4 := hide ((HB.out.alloc _).on hb4)
        have hbb := (hb4.block wr.heap.size (by simp)).trans (heap_alloc_new wr _)
        have hz4 : wr.heap.size < w4.heap.size := (Array.getElem?_eq_some_iff.1 hbb).1
        have f0 := cell_of_row w4 _ 0 _ _ _ hbb
        clear hb4 hbb
        go_wp2
        go_roundw
        case rel => exact ⟨k + 1, max z (x.l + 1), by omega, by go_num, rfl, by omega, HX, HB4.out⟩
        case measure => simp [intOf]; omega
    · obtain rfl : k = G.rs.length := by omega
      have HX := hide (HE.out.trans (rrF_end (Nat.le_refl _) z))
      clear hbw
      go_wp2
      go_ret
      exact ⟨ret_bool HX.out.symm, HB.out.below⟩

def cfgRight (G : Gm.Gr) : Bool := rnB G && rlF G.ts [] 0 && rrB G && decide (0 ≤ G.st) && decide (G.st < G.ns.length)
set_option maxHeartbeats 4000000 in
theorem gright_raw (v : Value) (G : Gm.Gr) (B : Nat) (w : World) (hg : RdGr w B v G) (hf : Gm.Fit G) (hB : B ≤ w.heap.size) :
    Calls Tryz.prog 11 #[v] w fun e w' => e = .returned (.bool (cfgRight G)) ∧ Below w.heap.size w w' := by
  have HG := hide hg
  have HF := hide hf
  obtain ⟨AT, cT, AN, cN, AR, cR, rfl, ⟨hlT, hmT⟩, ⟨hlN, hmN⟩, ⟨hlR, hmR⟩, htm, _, _⟩ := hg
  have HS0 := hide (One.start w #[.slice AT G.ts.length cT, .slice AN G.ns.length cN, .slice AR G.rs.length cR, .int .i64 G.st])
  have H1 := hide (fun (x : World) (h : One w #[.slice AT G.ts.length cT, .slice AN G.ns.length cN, .slice AR G.rs.length cR, .int .i64 G.st] x) => rightNames_any _ G B x (HG.out.below h.below hB) HF.out (Nat.le_trans hB h.below.size))
  have H2 := hide (fun (x : World) (h : One w #[.slice AT G.ts.length cT, .slice AN G.ns.length cN, .slice AR G.rs.length cR, .int .i64 G.st] x) => rightLevels_any AT cT B G.ts x (htm.keep fun g o hg => h.below.cell (p := ⟨g, o, none⟩) (Nat.lt_of_lt_of_le hg hB)) HF.out.t (Nat.le_trans hB h.below.size) (by omega))
  have H3 := hide (fun (x : World) (h : One w #[.slice AT G.ts.length cT, .slice AN G.ns.length cN, .slice AR G.rs.length cR, .int .i64 G.st] x) => rightRules_any _ G B x (HG.out.below h.below hB) HF.out (Nat.le_trans hB h.below.size))
  have hlenN : (G.ns.length : Int) ≤ 9223372036854775807 := by omega
  unfold cfgRight
  clear hf htm HG HF hlT hmT hlN hmN hlR hmR hB
  cases p1 : rnB G
  · rw [p1] at H1
    clear p1 H2 H3
    go_enter Tryz.func11, Tryz.ntmps11
    go_wp2_with fail
    refine (H1.out _ HS0.out).mono ?_; rintro _ w2 ⟨rfl, hb⟩
    have HB2 := hide (HS0.out.on hb)
    clear hb
    go_wp2
    go_ret
    exact ⟨rfl, HB2.out.below⟩
  rw [p1] at H1
  clear p1
  cases p2 : rlF G.ts [] 0
  · rw [p2] at H2
    clear p2 H3
    go_enter Tryz.func11, Tryz.ntmps11
    go_wp2_with fail
    refine (H1.out _ HS0.out).mono ?_; rintro _ w2 ⟨rfl, hb⟩
    have HB2 := hide (HS0.out.on hb)
    have q0 := HB2.out.c 0 _ rfl
    have z2 : w.heap.size < w2.heap.size := HB2.out.size
    clear hb
    go_wp2_with fail
    refine (H2.out _ HB2.out).mono ?_; rintro _ w3 ⟨rfl, hb⟩
    have HB3 := hide (HB2.out.on hb)
    clear hb
    go_wp2
    go_ret
    exact ⟨rfl, HB3.out.below⟩
  rw [p2] at H2
  clear p2
  cases p3 : rrB G
  · rw [p3] at H3
    clear p3
    go_enter Tryz.func11, Tryz.ntmps11
    go_wp2_with fail
    refine (H1.out _ HS0.out).mono ?_; rintro _ w2 ⟨rfl, hb⟩
    have HB2 := hide (HS0.out.on hb)
    have q0 := HB2.out.c 0 _ rfl
    have z2 : w.heap.size < w2.heap.size := HB2.out.size
    clear hb
    go_wp2_with fail
    refine (H2.out _ HB2.out).mono ?_; rintro _ w3 ⟨rfl, hb⟩
    have HB3 := hide (HB2.out.on hb)
    have r0 := HB3.out.c 0 _ rfl
    have r1 := HB3.out.c 1 _ rfl
    have r2 := HB3.out.c 2 _ rfl
    have r3 := HB3.out.c 3 _ rfl
    have z3 : w.heap.size < w3.heap.size := HB3.out.size
    clear hb
    go_wp2_with fail
    refine (H3.out _ HB3.out).mono ?_; rintro _ w4 ⟨rfl, hb⟩
    have HB4 := hide (HB3.out.on hb)
    clear hb
    go_wp2
    go_ret
    exact ⟨rfl, HB4.out.below⟩
  rw [p3] at H3
  clear p3
  by_cases h4 : 0 ≤ G.st
  · rw [decide_eq_true h4]
    go_enter Tryz.func11, Tryz.ntmps11
    go_wp2_with fail
    refine (H1.out _ HS0.out).mono ?_; rintro _ w2 ⟨rfl, hb⟩
    have HB2 := hide (HS0.out.on hb)
    have q0 := HB2.out.c 0 _ rfl
    have z2 : w.heap.size < w2.heap.size := HB2.out.size
    clear hb
    go_wp2_with fail
    refine (H2.out _ HB2.out).mono ?_; rintro _ w3 ⟨rfl, hb⟩
    have HB3 := hide (HB2.out.on hb)
    have r0 := HB3.out.c 0 _ rfl
    have r1 := HB3.out.c 1 _ rfl
    have r2 := HB3.out.c 2 _ rfl
    have r3 := HB3.out.c 3 _ rfl
    have z3 : w.heap.size < w3.heap.size := HB3.out.size
    clear hb
    go_wp2_with fail
    refine (H3.out _ HB3.out).mono ?_; rintro _ w4 ⟨rfl, hb⟩
    have HB4 := hide (HB3.out.on hb)
    have s1 := HB4.out.c 1 _ rfl
    have s3 := HB4.out.c 3 _ rfl
    have z4 : w.heap.size < w4.heap.size := HB4.out.size
    clear hb
    go_wp2
    go_ret
    exact ⟨ret_bool (by simp), HB4.out.below⟩
  · rw [decide_eq_false h4]
    have h4' := Int.not_le.1 h4
    clear h4
    go_enter Tryz.func11, Tryz.ntmps11
    go_wp2_with fail
    refine (H1.out _ HS0.out).mono ?_; rintro _ w2 ⟨rfl, hb⟩
    have HB2 := hide (HS0.out.on hb)
    have q0 := HB2.out.c 0 _ rfl
    have z2 : w.heap.size < w2.heap.size := HB2.out.size
    clear hb
    go_wp2_with fail
    refine (H2.out _ HB2.out).mono ?_; rintro _ w3 ⟨rfl, hb⟩
    have HB3 := hide (HB2.out.on hb)
    have r0 := HB3.out.c 0 _ rfl
    have r1 := HB3.out.c 1 _ rfl
    have r2 := HB3.out.c 2 _ rfl
    have r3 := HB3.out.c 3 _ rfl
    have z3 : w.heap.size < w3.heap.size := HB3.out.size
    clear hb
    go_wp2_with fail
    refine (H3.out _ HB3.out).mono ?_; rintro _ w4 ⟨rfl, hb⟩
    have HB4 := hide (HB3.out.on hb)
    have s1 := HB4.out.c 1 _ rfl
    have s3 := HB4.out.c 3 _ rfl
    have z4 : w.heap.size < w4.heap.size := HB4.out.size
    clear hb
    go_wp2
    go_ret
    exact ⟨rfl, HB4.out.below⟩
end Go.Proofs.YtoehbkgdodogkaaGreat

/- Pure: what cfg's own functions answer of a grammar is what the document's do. -/
namespace Go.Proofs.YtoehbkgdodogkaaGreat
set_option maxRecDepth 100000
open Go.RowKit

namespace Gm
/-- Different numbers from 1 to g: no more than g; and if so many, all. -/
theorem pigeons : ∀ (g : Nat) (l : List Int), l.Nodup → (∀ x ∈ l, 1 ≤ x ∧ x ≤ g) → l.length ≤ g ∧ (l.length = g → ∀ n : Nat, 1 ≤ n → n ≤ g → (n : Int) ∈ l)
  | 0, l, _, hb => by
    have : l = [] := by
      rcases l with _ | ⟨x, r⟩
      · rfl
      · have := hb x (by simp); omega
    subst this
    exact ⟨Nat.le_refl _, fun _ n h1 h2 => by omega⟩
  | g + 1, l, hn, hb => by
    by_cases hm : ((g + 1 : Nat) : Int) ∈ l
    · have hl := List.length_erase_of_mem hm
      have hpos : 0 < l.length := List.length_pos_of_mem hm
      obtain ⟨h1, h2⟩ := pigeons g (l.erase ((g + 1 : Nat) : Int)) (hn.erase _) (fun x hx => by
        have hx' := (hn.mem_erase_iff).1 hx
        have := hb x hx'.2
        have := hx'.1
        omega)
      refine ⟨by omega, fun e n q1 q2 => ?_⟩
      by_cases hg : n = g + 1
      · subst hg; exact hm
      · exact List.mem_of_mem_erase (h2 (by omega) n q1 (by omega))
    · obtain ⟨h1, _⟩ := pigeons g l hn (fun x hx => by
        have := hb x hx
        have : x ≠ ((g + 1 : Nat) : Int) := fun e => hm (e ▸ hx)
        omega)
      exact ⟨by omega, fun e => by omega⟩

/-- Levels that may be. -/
structure LvGood (ts : List Tm) : Prop where
  a : ∀ t ∈ ts, asB t = true
  b : ∀ t ∈ ts, ∀ u ∈ ts, 0 < t.lv → t.lv = u.lv → t.wy = u.wy
  c : ∀ t ∈ ts, ∀ n : Nat, 1 ≤ n → (n : Int) ≤ t.lv → ∃ u ∈ ts, u.lv = (n : Int)
theorem asB_iff (t : Tm) : asB t = true ↔ 0 ≤ t.lv ∧ 0 ≤ t.wy ∧ t.wy ≤ 3 ∧ (t.lv = 0 ↔ t.wy = 0) := by
  unfold asB
  by_cases h0 : t.wy = 0
  · rw [if_pos h0]
    simp only [beq_iff_eq]
    omega
  · rw [if_neg h0]
    by_cases h1 : t.wy = 1 ∨ t.wy = 2 ∨ t.wy = 3
    · rw [if_pos h1]
      simp only [decide_eq_true_eq]
      omega
    · rw [if_neg h1]
      simp only [Bool.false_eq_true, false_iff]
      omega
structure Inv (pre : List Tm) (m : List (Int × Int)) (g : Int) : Prop where
  n : (m.map Prod.fst).Nodup
  f : ∀ t ∈ pre, 0 < t.lv → Mw.asc m t.lv = some t.wy
  r : ∀ l w, Mw.asc m l = some w → 0 < l ∧ ∃ t ∈ pre, t.lv = l ∧ t.wy = w
  a : ∀ t ∈ pre, asB t = true
  g0 : 0 ≤ g
  g1 : ∀ t ∈ pre, t.lv ≤ g
  g2 : g = 0 ∨ ∃ t ∈ pre, t.lv = g
theorem Inv.nil : Inv [] [] 0 := ⟨by simp, by simp, fun _ _ h => by simp [Mw.asc] at h, by simp, Int.le_refl _, by simp, .inl rfl⟩
theorem Inv.key {pre : List Tm} {m : List (Int × Int)} {g : Int} (h : Inv pre m g) {x : Int} (hx : x ∈ m.map Prod.fst) : ∃ w, Mw.asc m x = some w := by
  obtain ⟨p, hp, rfl⟩ := List.mem_map.1 hx
  exact ⟨p.2, Mw.asc_of_mem h.n hp⟩
theorem Inv.next {pre : List Tm} {m : List (Int × Int)} {g : Int} {t : Tm} (h : Inv pre m g) (ha : asB t = true) (hc : ¬ ((Mw.asc m t.lv).isSome = true ∧ (Mw.asc m t.lv).getD 0 ≠ t.wy)) : Inv (pre ++ [t]) (lvPut m t) (max g t.lv) := by
  have hl := ((asB_iff t).1 ha).1
  have hmem : ∀ u, u ∈ pre ++ [t] ↔ u ∈ pre ∨ u = t := fun u => by simp
  have hg0 := h.g0
  have hgg : 0 ≤ max g t.lv ∧ (∀ u ∈ pre ++ [t], u.lv ≤ max g t.lv) ∧ (max g t.lv = 0 ∨ ∃ u ∈ pre ++ [t], u.lv = max g t.lv) := by
    refine ⟨by omega, fun u hu => ?_, ?_⟩
    · rcases (hmem u).1 hu with q | rfl
      · have := h.g1 u q; omega
      · omega
    · by_cases hgt : g ≤ t.lv
      · exact .inr ⟨t, (hmem t).2 (.inr rfl), by omega⟩
      · rcases h.g2 with q | ⟨u, hu, e⟩
        · omega
        · exact .inr ⟨u, (hmem u).2 (.inl hu), by omega⟩
  have haa : ∀ u ∈ pre ++ [t], asB u = true := fun u hu => by
    rcases (hmem u).1 hu with q | rfl
    · exact h.a u q
    · exact ha
  unfold lvPut
  by_cases hp : 0 < t.lv
  · rw [if_pos hp]
    cases hq : Mw.asc m t.lv with
    | none =>
      rw [if_pos rfl]
      refine ⟨?_, ?_, ?_, haa, hgg.1, hgg.2.1, hgg.2.2⟩
      · rw [List.map_append, List.nodup_append]
        refine ⟨h.n, by simp, fun x hx y hy e => ?_⟩
        simp only [List.map_cons, List.map_nil, List.mem_singleton] at hy
        obtain ⟨w, hw⟩ := h.key hx
        rw [e, hy, hq] at hw; cases hw
      · intro u hu h0
        rw [Mw.asc_snoc hq]
        rcases (hmem u).1 hu with q | rfl
        · have := h.f u q h0
          by_cases e : t.lv = u.lv
          · rw [← e, hq] at this; cases this
          · rw [if_neg e]; exact this
        · rw [if_pos rfl]
      · intro l w hw
        rw [Mw.asc_snoc hq] at hw
        by_cases e : t.lv = l
        · rw [if_pos e] at hw
          injection hw with hw
          exact ⟨by omega, t, (hmem t).2 (.inr rfl), e, hw⟩
        · rw [if_neg e] at hw
          obtain ⟨h1, u, hu, h2⟩ := h.r l w hw
          exact ⟨h1, u, (hmem u).2 (.inl hu), h2⟩
    | some w =>
      rw [if_neg (by simp)]
      have hwt : w = t.wy := Classical.byContradiction fun e => hc (by rw [hq]; exact ⟨rfl, e⟩)
      refine ⟨h.n, ?_, ?_, haa, hgg.1, hgg.2.1, hgg.2.2⟩
      · intro u hu h0
        rcases (hmem u).1 hu with q | rfl
        · exact h.f u q h0
        · rw [hq, hwt]
      · intro l w hw
        obtain ⟨h1, u, hu, h2⟩ := h.r l w hw
        exact ⟨h1, u, (hmem u).2 (.inl hu), h2⟩
  · rw [if_neg hp]
    refine ⟨h.n, ?_, ?_, haa, hgg.1, hgg.2.1, hgg.2.2⟩
    · intro u hu h0
      rcases (hmem u).1 hu with q | rfl
      · exact h.f u q h0
      · exact absurd h0 hp
    · intro l w hw
      obtain ⟨h1, u, hu, h2⟩ := h.r l w hw
      exact ⟨h1, u, (hmem u).2 (.inl hu), h2⟩
theorem rlF_iff : ∀ (r pre : List Tm) (m : List (Int × Int)) (g : Int), Inv pre m g → (rlF r m g = true ↔ LvGood (pre ++ r))
  | [], pre, m, g, h => by
    rw [List.append_nil, rlF, beq_iff_eq]
    have hin : ∀ x ∈ m.map Prod.fst, 1 ≤ x ∧ x ≤ (g.toNat : Int) := fun x hx => by
      obtain ⟨w, hw⟩ := h.key hx
      obtain ⟨h1, u, hu, h2, _⟩ := h.r x w hw
      have := h.g1 u hu
      have := h.g0
      omega
    obtain ⟨p1, p2⟩ := pigeons g.toNat (m.map Prod.fst) h.n hin
    rw [List.length_map] at p1 p2
    have hg0 := h.g0
    constructor
    · intro e
      refine ⟨h.a, fun t ht u hu h0 e' => ?_, fun t ht n q1 q2 => ?_⟩
      · have a1 := h.f t ht h0
        have a2 := h.f u hu (by omega)
        rw [e', a2] at a1
        injection a1 with a1
        exact a1.symm
      · have := h.g1 t ht
        have hk := p2 (by omega) n q1 (by omega)
        obtain ⟨w, hw⟩ := h.key hk
        obtain ⟨_, u, hu, h2, _⟩ := h.r _ w hw
        exact ⟨u, hu, h2⟩
    · intro hgd
      rcases h.g2 with q | ⟨t, ht, e⟩
      · omega
      · have : g.toNat ≤ (m.map Prod.fst).length := by
          have hh : ∀ n : Nat, 1 ≤ n → n ≤ g.toNat → ∃ t ∈ m.map (fun p => (⟨[], p.1, 0⟩ : Tm)), t.lv = (n : Int) := fun n q1 q2 => by
            obtain ⟨u, hu, e2⟩ := hgd.c t ht n q1 (by omega)
            have := h.f u hu (by omega)
            rw [e2] at this
            exact ⟨_, List.mem_map.2 ⟨_, Mw.asc_mem this, rfl⟩, rfl⟩
          have := few g.toNat _ hh
          simpa using this
        rw [List.length_map] at this
        omega
  | t :: r, pre, m, g, h => by
    rw [rlF]
    by_cases ha : asB t = false
    · rw [if_pos ha]
      simp only [Bool.false_eq_true, false_iff]
      intro q
      have := q.a t (by simp)
      rw [ha] at this; cases this
    · rw [if_neg ha]
      have ha : asB t = true := by simpa using ha
      by_cases hc : (Mw.asc m t.lv).isSome = true ∧ (Mw.asc m t.lv).getD 0 ≠ t.wy
      · rw [if_pos hc]
        simp only [Bool.false_eq_true, false_iff]
        intro q
        cases hq : Mw.asc m t.lv with
        | none => rw [hq] at hc; simp at hc
        | some w =>
          rw [hq] at hc
          obtain ⟨h1, u, hu, h2, h3⟩ := h.r _ w hq
          have := q.b u (by simp [hu]) t (by simp) (by omega) h2
          exact hc.2 (by simp only [Option.getD_some]; omega)
      · rw [if_neg hc, rlF_iff r (pre ++ [t]) _ _ (h.next ha hc), List.append_assoc, List.singleton_append]

theorem lev_inv {n : Int} : ∀ (ts : List Tm) (way : Int), (∀ t ∈ ts, t.lv = n → t.wy ≠ 0) → lev n ts way = true → (way ≠ 0 ∨ ∃ t ∈ ts, t.lv = n) ∧ ∃ w, (way = 0 ∨ way = w) ∧ ∀ t ∈ ts, t.lv = n → t.wy = w
  | [], way, _, h => by
    rw [lev] at h
    have : way ≠ 0 := by simpa using h
    exact ⟨.inl this, way, .inr rfl, by simp⟩
  | t :: r, way, hn, h => by
    rw [lev] at h
    by_cases h1 : t.lv ≠ n
    · rw [if_pos h1] at h
      obtain ⟨a, w, b, c⟩ := lev_inv r way (fun u hu => hn u (by simp [hu])) h
      refine ⟨?_, w, b, fun u hu e => ?_⟩
      · rcases a with a | ⟨u, hu, e⟩
        · exact .inl a
        · exact .inr ⟨u, by simp [hu], e⟩
      · rcases List.mem_cons.1 hu with rfl | hu
        · exact absurd e h1
        · exact c u hu e
    · rw [if_neg h1] at h
      have h1 : t.lv = n := Classical.byContradiction h1
      by_cases h2 : way ≠ 0 ∧ way ≠ t.wy
      · rw [if_pos h2] at h; cases h
      · rw [if_neg h2] at h
        obtain ⟨a, w, b, c⟩ := lev_inv r t.wy (fun u hu => hn u (by simp [hu])) h
        have hw : t.wy = w := by
          rcases b with b | b
          · exact absurd b (hn t (by simp) h1)
          · exact b
        refine ⟨.inr ⟨t, by simp, h1⟩, w, ?_, fun u hu e => ?_⟩
        · by_cases hw0 : way = 0
          · exact .inl hw0
          · refine .inr (Classical.byContradiction fun q => h2 ⟨hw0, fun e => q (e.trans hw)⟩)
        · rcases List.mem_cons.1 hu with rfl | hu
          · exact hw
          · exact c u hu e

/-- The levels of the document's own test. -/
def LvRef (ts : List Tm) : Prop := ∀ t ∈ ts, 0 ≤ t.lv ∧ t.lv ≤ 24 ∧ 0 ≤ t.wy ∧ t.wy ≤ 3 ∧ (t.lv = 0 ↔ t.wy = 0) ∧ ∀ n : Nat, n < t.lv.toNat → lev ((n + 1 : Nat) : Int) ts 0 = true
theorem lv_iff {ts : List Tm} (hl : ts.length ≤ 24) : LvGood ts ↔ LvRef ts := by
  constructor
  · intro h t ht
    have ha := (asB_iff t).1 (h.a t ht)
    have h24 : t.lv.toNat ≤ ts.length := few t.lv.toNat ts fun n q1 q2 => h.c t ht n q1 (by omega)
    refine ⟨ha.1, by omega, ha.2.1, ha.2.2.1, ha.2.2.2, fun n hn => ?_⟩
    obtain ⟨u, hu, e⟩ := h.c t ht (n + 1) (by omega) (by omega)
    have hau := (asB_iff u).1 (h.a u hu)
    exact lev_true (w := u.wy) (by omega) ts 0 (fun x hx ex => (h.b u hu x hx (by omega) (by omega)).symm) (.inl rfl) (.inr ⟨u, hu, e⟩)
  · intro h
    refine ⟨fun t ht => (asB_iff t).2 ?_, fun t ht u hu h0 e => ?_, fun t ht n q1 q2 => ?_⟩
    · obtain ⟨h1, h2, h3, h4, h5, _⟩ := h t ht
      exact ⟨h1, h3, h4, h5⟩
    · obtain ⟨h1, h2, h3, h4, h5, h6⟩ := h t ht
      have hl := h6 (t.lv.toNat - 1) (by omega)
      have hn : ((t.lv.toNat - 1 + 1 : Nat) : Int) = t.lv := by omega
      rw [hn] at hl
      obtain ⟨_, w, _, c⟩ := lev_inv ts 0 (fun x hx ex q => by have := (h x hx).2.2.2.2.1; omega) hl
      rw [c t ht rfl, c u hu e.symm]
    · obtain ⟨h1, h2, h3, h4, h5, h6⟩ := h t ht
      have hl := h6 (n - 1) (by omega)
      have hn : ((n - 1 + 1 : Nat) : Int) = (n : Int) := by omega
      rw [hn] at hl
      obtain ⟨a, _⟩ := lev_inv ts 0 (fun x hx ex q => by have := (h x hx).2.2.2.2.1; omega) hl
      rcases a with a | a
      · exact absurd rfl a
      · exact a
theorem nodup_find {l : List (List Int)} (h : ∀ i (hi : i < l.length), find l l[i] = (i : Int)) : l.Nodup := by
  rw [List.nodup_iff_pairwise_ne, List.pairwise_iff_getElem]
  intro i j hi hj hij e
  have h1 := h i hi
  have h2 := h j hj
  rw [e, h2] at h1
  omega
theorem terms_iff (ts : List Tm) : terms ts = true ↔ ts.length ≤ 24 ∧ (∀ t ∈ ts, named t.nm = true) ∧ (names ts).Nodup ∧ LvRef ts := by
  unfold terms
  rw [Bool.and_eq_true, decide_eq_true_eq, decide_eq_true_eq]
  have hnl : (names ts).length = ts.length := names_len ts
  have hni : ∀ i (h : i < ts.length), (names ts)[i]'(by omega) = ts[i].nm := fun i h => by simp [names]
  constructor
  · rintro ⟨h1, h2⟩
    have h3 : ∀ i (h : i < ts.length), named ts[i].nm = true ∧ find (names ts) ts[i].nm = (i : Int) ∧ 0 ≤ ts[i].lv ∧ ts[i].lv ≤ 24 ∧ 0 ≤ ts[i].wy ∧ ts[i].wy ≤ 3 ∧ (ts[i].lv = 0 ↔ ts[i].wy = 0) ∧ ∀ n : Nat, n < ts[i].lv.toNat → lev ((n + 1 : Nat) : Int) ts 0 = true := fun i h => by
      have := h2 i h
      unfold term1 at this
      simp only [Bool.and_eq_true, decide_eq_true_eq, beq_iff_eq] at this
      obtain ⟨⟨⟨⟨⟨⟨⟨a, b⟩, c⟩, d⟩, e⟩, f⟩, g⟩, k⟩ := this
      refine ⟨a, b, c, d, e, f, ?_, k⟩
      rw [Bool.eq_iff_iff, beq_iff_eq, beq_iff_eq] at g
      exact g
    refine ⟨h1, fun t ht => ?_, nodup_find fun i hi => ?_, fun t ht => ?_⟩
    · obtain ⟨i, hi, rfl⟩ := List.getElem_of_mem ht; exact (h3 i hi).1
    · rw [hni i (by omega)]; exact (h3 i (by omega)).2.1
    · obtain ⟨i, hi, rfl⟩ := List.getElem_of_mem ht; exact (h3 i hi).2.2
  · rintro ⟨h1, h2, h3, h4⟩
    refine ⟨h1, fun i hi => ?_⟩
    unfold term1
    simp only [Bool.and_eq_true, decide_eq_true_eq, beq_iff_eq]
    obtain ⟨c, d, e, f, g, k⟩ := h4 _ (List.getElem_mem hi)
    refine ⟨⟨⟨⟨⟨⟨⟨h2 _ (List.getElem_mem hi), ?_⟩, c⟩, d⟩, e⟩, f⟩, ?_⟩, k⟩
    · rw [← hni i hi]; exact find_self h3 i (by omega)
    · rw [Bool.eq_iff_iff, beq_iff_eq, beq_iff_eq]; exact g
theorem nons_iff (G : Gr) : nons G = true ↔ 1 ≤ G.ns.length ∧ G.ns.length ≤ 16 ∧ (∀ s ∈ G.ns, T.isName s = true) ∧ G.ns.Nodup ∧ ∀ s ∈ G.ns, s ∉ names G.ts := by
  unfold nons
  rw [Bool.and_eq_true, Bool.and_eq_true, decide_eq_true_eq, decide_eq_true_eq, decide_eq_true_eq]
  constructor
  · rintro ⟨⟨h1, h2⟩, h3⟩
    have h4 : ∀ i (h : i < G.ns.length), T.isName G.ns[i] = true ∧ find G.ns G.ns[i] = (i : Int) ∧ find (names G.ts) G.ns[i] < 0 := fun i h => by
      have := h3 i h
      unfold non1 non term at this
      simp only [Bool.and_eq_true, decide_eq_true_eq, beq_iff_eq] at this
      exact ⟨this.1.1, this.1.2, this.2⟩
    refine ⟨h1, h2, fun s hs => ?_, nodup_find fun i hi => (h4 i hi).2.1, fun s hs => ?_⟩
    · obtain ⟨i, hi, rfl⟩ := List.getElem_of_mem hs; exact (h4 i hi).1
    · obtain ⟨i, hi, rfl⟩ := List.getElem_of_mem hs; exact find_none.1 (h4 i hi).2.2
  · rintro ⟨h1, h2, h3, h4, h5⟩
    refine ⟨⟨h1, h2⟩, fun i hi => ?_⟩
    unfold non1 non term
    simp only [Bool.and_eq_true, decide_eq_true_eq, beq_iff_eq]
    exact ⟨⟨h3 _ (List.getElem_mem hi), find_self h4 i hi⟩, find_none.2 (h5 _ (List.getElem_mem hi))⟩
theorem rn_iff (G : Gr) : rnB G = true ↔ G.ts.length ≤ 24 ∧ 1 ≤ G.ns.length ∧ G.ns.length ≤ 16 ∧ (∀ t ∈ G.ts, named t.nm = true) ∧ (∀ s ∈ G.ns, T.isName s = true) ∧ (names G.ts ++ G.ns).Nodup := by
  unfold rnB nmL
  simp only [Bool.and_eq_true, decide_eq_true_eq, List.all_eq_true, List.length_map]
  have h := (dd_len [] (names G.ts ++ G.ns) (by simp)).2
  simp only [List.length_nil, Nat.zero_add, List.nil_append, List.length_append, names_len] at h
  rw [h]
  constructor
  · rintro ⟨⟨⟨⟨⟨a, b⟩, c⟩, d⟩, e⟩, f⟩; exact ⟨a, b, c, d, e, f⟩
  · rintro ⟨a, b, c, d, e, f⟩; exact ⟨⟨⟨⟨⟨a, b⟩, c⟩, d⟩, e⟩, f⟩
theorem ru_eq (G : Gr) (x : Rl) : ruB G x = rule G x := by
  rw [Bool.eq_iff_iff]
  unfold ruB rule
  have hn : x.r.any (noHas G) = false ↔ ∀ z ∈ x.r, has G z = true := by
    rw [List.any_eq_false]
    unfold noHas
    constructor
    · intro h z hz; have := h z hz; simpa using this
    · intro h z hz; rw [h z hz]; simp
  have ht : x.r.any isT = false ↔ ∀ z ∈ x.r, ¬ 0 ≤ z := by
    rw [List.any_eq_false]
    unfold isT
    constructor
    · intro h z hz; simpa using h z hz
    · intro h z hz; simpa using h z hz
  simp only [Bool.and_eq_true, decide_eq_true_eq, Bool.not_eq_true', List.all_eq_true, hn]
  by_cases hp : x.p = -1
  · rw [if_pos hp]
    simp only [Bool.not_eq_true', ht, hp, beq_self_eq_true, Bool.and_true, decide_eq_false_iff_not]
    constructor
    · rintro ⟨⟨a, b⟩, c⟩; exact ⟨⟨⟨a, by omega⟩, by omega⟩, fun z hz => ⟨b z hz, c z hz⟩⟩
    · rintro ⟨⟨⟨a, _⟩, _⟩, b⟩; exact ⟨⟨a, fun z hz => (b z hz).1⟩, fun z hz => (b z hz).2⟩
  · rw [if_neg hp]
    have hp' : (x.p == -1) = false := by simpa using hp
    simp only [hp', Bool.and_false, and_true, Bool.and_eq_true]
    unfold isT has
    rw [decide_eq_true_eq]
    constructor
    · rintro ⟨⟨a, b⟩, c, d⟩
      rw [if_pos c, decide_eq_true_eq] at d
      exact ⟨⟨⟨a, by omega⟩, d⟩, b⟩
    · rintro ⟨⟨⟨a, b⟩, c⟩, d⟩
      have h0 : 0 ≤ x.p := by omega
      exact ⟨⟨a, d⟩, h0, by rw [if_pos h0, decide_eq_true_eq]; exact c⟩
theorem rr_eq (G : Gr) : ∀ (rs : List Rl) (top : Int), rrF G rs (top + 1) = rules G rs top
  | [], top => by
    rw [rrF, rules, Bool.eq_iff_iff, beq_iff_eq, beq_iff_eq]
    omega
  | r :: rs, top => by
    rw [rrF, rules, ru_eq]
    by_cases h : r.l < 0 ∨ top + 1 < r.l ∨ rule G r = false
    · rw [if_pos h, if_pos h]
    · rw [if_neg h, if_neg h]
      rw [← rr_eq G rs]
      congr 1
      by_cases h2 : top < r.l
      · rw [if_pos h2]; omega
      · rw [if_neg h2]; omega
theorem right_eq (G : Gr) : cfgRight G = right G := by
  rw [Bool.eq_iff_iff]
  unfold cfgRight right rrB
  have hrr := rr_eq G G.rs (-1)
  rw [show (-1 : Int) + 1 = 0 from rfl] at hrr
  simp only [Bool.and_eq_true, decide_eq_true_eq, hrr, rn_iff, terms_iff, nons_iff]
  have hlv := rlF_iff G.ts [] [] 0 Inv.nil
  rw [List.nil_append] at hlv
  rw [hlv, List.nodup_append]
  constructor
  · rintro ⟨⟨⟨⟨⟨a, b, c, d, e, f1, f2, f3⟩, g⟩, h, k⟩, l⟩, m⟩
    refine ⟨⟨⟨⟨⟨⟨⟨a, d, f1, (lv_iff a).1 g⟩, b, c, e, f2, fun s hs q => f3 s q s hs rfl⟩, ?_⟩, h⟩, l⟩, m⟩, k⟩
    rcases hz : G.rs with _ | ⟨x, r⟩
    · rw [hz, rules, beq_iff_eq] at k; omega
    · simp
  · rintro ⟨⟨⟨⟨⟨⟨⟨a, d, f1, g⟩, b, c, e, f2, f3⟩, _⟩, h⟩, l⟩, m⟩, k⟩
    exact ⟨⟨⟨⟨⟨a, b, c, d, e, f1, f2, fun s hs q hq ee => f3 q hq (ee ▸ hs)⟩, (lv_iff a).2 g⟩, h, k⟩, l⟩, m⟩
end Gm

theorem gright_any (v : Value) (G : Gm.Gr) (B : Nat) (w : World) (hg : RdGr w B v G) (hf : Gm.Fit G) (hB : B ≤ w.heap.size) :
    Calls Tryz.prog 11 #[v] w fun e w' => e = .returned (.bool (Gm.right G)) ∧ Below w.heap.size w w' := by
  rw [← Gm.right_eq]
  exact gright_raw v G B w hg hf hB
end Go.Proofs.YtoehbkgdodogkaaGreat
