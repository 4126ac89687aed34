/- Contracts of the small functions of grammars over this program: which symbols there are, which number a name has; and of the document's own. -/
import Derived.Test.YtoehbkgdodogkaaGreatGmL
import Derived.Test.YtoehbkgdodogkaaGreatCalm
import Derived.IntWalk
namespace Go.Proofs.YtoehbkgdodogkaaGreat
set_option maxRecDepth 100000
open Go.RowKit

theorem non_any (z : Int) (hz : -9223372036854775808 ≤ z) (hz' : z ≤ 9223372036854775807) (w : World) :
    Calls Tryz.prog 17 #[.int .i64 z] w fun e w' => e = .returned (.int .i64 (-1 - z)) ∧ w' = w := by
  have hs : IntKind.i64.wrap (-1 - z) = -1 - z := IntWalk.i64_in _ (by omega)
  clear hz hz'
  go_enter Tryz.func17, Tryz.ntmps17
  go_wp2
  go_ret
  exact ⟨rfl, rfl⟩
theorem isTerm_any (z : Int) (w : World) :
    Calls Tryz.prog 52 #[.int .i64 z] w fun e w' => e = .returned (.bool (decide (0 ≤ z))) ∧ w' = w := by
  go_enter Tryz.func52, Tryz.ntmps52
  go_wp2
  go_ret
  exact ⟨rfl, rfl⟩
theorem has_any (v : Value) (G : Gm.Gr) (B : Nat) (z : Int) (hz : Gm.In z) (w : World) (hg : RdGr w B v G) :
    Calls Tryz.prog 7 #[v, .int .i64 z] w fun e w' => e = .returned (.bool (Gm.has G z)) ∧ Below w.heap.size w w' := by
  obtain ⟨AT, cT, AN, cN, AR, cR, rfl, _⟩ := hg
  have HB := hide (fun o => (Below.refl w.heap.size w).alloc (Nat.le_refl _) o)
  unfold Gm.In at hz
  unfold Gm.has
  by_cases h0 : 0 ≤ z
  · rw [if_pos h0]
    clear hz
    go_enter Tryz.func7, Tryz.ntmps7
    go_wp2
    go_ret
    exact ⟨rfl, HB.out _⟩
  · rw [if_neg h0]
    have HN := hide (fun w => non_any z (by omega) (by omega) w)
    have h0' : decide (0 ≤ z) = false := decide_eq_false h0
    clear hz
    go_enter Tryz.func7, Tryz.ntmps7
    go_wp2_with fail
    go_quiet ((go_at_call 17; exact Calls.quiet_of_same (HN.out _)))
    go_wp2
    go_ret
    exact ⟨rfl, below_drewN (HB.out _) _⟩
theorem rhas_any9 (v : Value) (G : Gm.Gr) (B : Nat) (z : Int) (hz : Gm.In z) (w : World) (hg : RdGr w B v G) :
    Calls Tryz.prog 8 #[v, .int .i64 z] w fun e w' => e = .returned (.bool (Gm.has G z)) ∧ Below w.heap.size w w' := by
  obtain ⟨AT, cT, AN, cN, AR, cR, rfl, _⟩ := hg
  have HB := hide (fun o => (Below.refl w.heap.size w).alloc (Nat.le_refl _) o)
  unfold Gm.In at hz
  unfold Gm.has
  have hs : ¬ 0 ≤ z → IntKind.i64.wrap (-1 - z) = -1 - z := fun h => IntWalk.i64_in _ (by omega)
  by_cases h0 : 0 ≤ z
  · rw [if_pos h0]
    clear hz hs
    go_enter Tryz.func8, Tryz.ntmps8
    go_wp2
    go_ret
    exact ⟨rfl, HB.out _⟩
  · rw [if_neg h0]
    have hs := hs h0
    clear hz
    go_enter Tryz.func8, Tryz.ntmps8
    go_wp2
    go_ret
    exact ⟨rfl, HB.out _⟩

/-- The place found among the first k ones. -/
def fnd (l : List (List Int)) (s : List Int) (k : Nat) : Prop := ∀ i (h : i < l.length), i < k → l[i] ≠ s
theorem fnd.zero (l : List (List Int)) (s : List Int) : fnd l s 0 := fun _ _ h => by omega
theorem fnd.next {l : List (List Int)} {s : List Int} {k : Nat} (h : fnd l s k) (hk : k < l.length) (hn : l[k] ≠ s) : fnd l s (k + 1) := fun i hi hik => by
  rcases Nat.lt_or_ge i k with h1 | h1
  · exact h i hi h1
  · obtain rfl : i = k := by omega
    exact hn
theorem fnd.here {l : List (List Int)} {s : List Int} {k : Nat} (h : fnd l s k) (hk : k < l.length) (hn : l[k] = s) : Gm.find l s = (k : Int) := Gm.find_first k hk hn fun i hi => h i (by omega) hi
theorem fnd.none {l : List (List Int)} {s : List Int} {k : Nat} (h : fnd l s k) (hk : l.length ≤ k) : Gm.find l s = -1 := Gm.find_not fun i hi => h i hi (by omega)
theorem K.eqB {l m : List Int} (hl : K.Tx l) (hm : K.Tx m) : ((K.str l).toList == (K.str m).toList) = decide (l = m) := by
  rw [Bool.eq_iff_iff]
  simp only [beq_iff_eq, decide_eq_true_eq]
  constructor
  · intro h
    rw [ByteArray.toList_eq, ByteArray.toList_eq] at h
    exact K.bytes_inj hl.1 hm.1 (by simpa [K.str] using h)
  · rintro rfl; rfl

set_option maxHeartbeats 1000000 in
theorem term_any (v : Value) (G : Gm.Gr) (s : List Int) (B : Nat) (w : World) (hg : RdGr w B v G) (hf : Gm.Fit G) (hs : K.Tx s) (hB : B ≤ w.heap.size) :
    Calls Tryz.prog 37 #[v, .string (K.str s)] w fun e w' => e = .returned (.int .i64 (Gm.term G s)) ∧ Below w.heap.size w w' := by
  obtain ⟨AT, cT, AN, cN, AR, cR, rfl, ⟨hl, hm⟩, _, _, ht, _, _⟩ := hg
  have HB := hide (fun o => (Below.refl w.heap.size w).alloc (Nat.le_refl _) o)
  have HT := hide ht
  have HF := hide hf.t
  have HL : Hid ((Gm.names G.ts).length = G.ts.length) := hide (by simp [Gm.names])
  have hlen : (G.ts.length : Int) ≤ 9223372036854775807 := by omega
  clear ht hf
  go_enter Tryz.func37, Tryz.ntmps37
  go_wp2
  go_loop [5] (fun vi => ∃ (k : Nat), k ≤ G.ts.length ∧ vi = .int .i64 k ∧ fnd (Gm.names G.ts) s k) (fun vi => G.ts.length - (intOf vi).toNat)
  case atStart => exact ⟨0, Nat.zero_le _, rfl, fnd.zero _ _⟩
  case round =>
    obtain ⟨k, hk, rfl, hn⟩ := hrel
    have HN := hide hn
    clear hn
    by_cases hlt : k < G.ts.length
    · obtain ⟨g, o, rfl, hgb, hc⟩ := HT.out (by omega)
      have k0 := (hc k hlt).1
      have hgs : g < w.heap.size := by omega
      have hq := (HF.out _ (List.getElem_mem hlt)).1
      have hnm : (Gm.names G.ts)[k]'(by rw [HL.out]; exact hlt) = G.ts[k].nm := by simp [Gm.names]
      have he := K.eqB hq hs
      have HQ := hide hnm
      clear hc hq hnm
      generalize G.ts[k].nm = x at *
      by_cases hx : x = s
      · have HR := hide (HN.out.here (by rw [HL.out]; exact hlt) (HQ.out.trans hx))
        rw [decide_eq_true hx] at he
        clear hx
        go_wp2
        go_ret
        exact ⟨ret_int HR.out.symm, HB.out _⟩
      · have HR := hide (HN.out.next (by rw [HL.out]; exact hlt) (fun e => hx (HQ.out.symm.trans e)))
        rw [decide_eq_false hx] at he
        clear hx
        go_wp2
        go_round
        case rel => exact ⟨k + 1, by omega, by go_num, HR.out⟩
        case measure => simp [intOf]; omega
    · obtain rfl : k = G.ts.length := by omega
      have HR := hide (HN.out.none (by rw [HL.out]; omega))
      go_wp2
      go_ret
      exact ⟨ret_int HR.out.symm, HB.out _⟩

set_option maxHeartbeats 1000000 in
theorem rnon_any (v : Value) (G : Gm.Gr) (s : List Int) (B : Nat) (w : World) (hg : RdGr w B v G) (hf : Gm.Fit G) (hs : K.Tx s) (hB : B ≤ w.heap.size) :
    Calls Tryz.prog 40 #[v, .string (K.str s)] w fun e w' => e = .returned (.int .i64 (Gm.non G s)) ∧ Below w.heap.size w w' := by
  obtain ⟨AT, cT, AN, cN, AR, cR, rfl, _, ⟨hl, hm⟩, _, _, ht, _⟩ := hg
  have HB := hide (fun o => (Below.refl w.heap.size w).alloc (Nat.le_refl _) o)
  have HT := hide ht
  have HF := hide hf.n
  have hlen : (G.ns.length : Int) ≤ 9223372036854775807 := by omega
  clear ht hf
  go_enter Tryz.func40, Tryz.ntmps40
  go_wp2
  go_loop [5] (fun vi => ∃ (k : Nat), k ≤ G.ns.length ∧ vi = .int .i64 k ∧ fnd G.ns s k) (fun vi => G.ns.length - (intOf vi).toNat)
  case atStart => exact ⟨0, Nat.zero_le _, rfl, fnd.zero _ _⟩
  case round =>
    obtain ⟨k, hk, rfl, hn⟩ := hrel
    have HN := hide hn
    clear hn
    by_cases hlt : k < G.ns.length
    · obtain ⟨g, o, rfl, hgb, hc⟩ := HT.out (by omega)
      have k0 := hc k hlt
      have hgs : g < w.heap.size := by omega
      have he := K.eqB (HF.out _ (List.getElem_mem hlt)) hs
      obtain ⟨x, hq⟩ : ∃ x, x = G.ns[k] := ⟨_, rfl⟩
      rw [← hq] at k0 he
      have HQ := hide hq
      clear hc hq
      by_cases hx : x = s
      · have HR := hide (HN.out.here hlt (HQ.out.symm.trans hx))
        rw [decide_eq_true hx] at he
        clear hx
        go_wp2
        go_ret
        exact ⟨ret_int HR.out.symm, HB.out _⟩
      · have HR := hide (HN.out.next hlt (fun e => hx (HQ.out.trans e)))
        rw [decide_eq_false hx] at he
        clear hx
        go_wp2
        go_round
        case rel => exact ⟨k + 1, by omega, by go_num, HR.out⟩
        case measure => simp [intOf]; omega
    · obtain rfl : k = G.ns.length := by omega
      have HR := hide (HN.out.none (by omega))
      go_wp2
      go_ret
      exact ⟨ret_int HR.out.symm, HB.out _⟩

/-- slices.Index of texts. -/
theorem index_str (A : Option Addr) (ns : List (List Int)) (s : List Int) (B c : Nat) (w : World) (hg : RdN w B A ns) (hf : ∀ x ∈ ns, K.Tx x) (hs : K.Tx s) (hlen : (ns.length : Int) ≤ 9223372036854775807) :
    Calls Tryz.prog 31 #[.slice A ns.length c, .string (K.str s)] w fun e w' => e = .returned (.int .i64 (Gm.find ns s)) ∧ w' = w := by
  have HT := hide hg
  have HF := hide hf
  clear hg hf
  go_enter Tryz.func31, Tryz.ntmps31
  go_wp2
  go_loop [8] (fun vi => ∃ (k : Nat), k ≤ ns.length ∧ vi = .int .i64 k ∧ fnd ns s k) (fun vi => ns.length - (intOf vi).toNat)
  case atStart => exact ⟨0, Nat.zero_le _, rfl, fnd.zero _ _⟩
  case round =>
    obtain ⟨k, hk, rfl, hn⟩ := hrel
    have HN := hide hn
    clear hn
    by_cases hlt : k < ns.length
    · obtain ⟨g, o, rfl, hgb, hc⟩ := HT.out (by omega)
      have k0 := hc k hlt
      have he := K.eqB hs (HF.out _ (List.getElem_mem hlt))
      obtain ⟨x, hq⟩ : ∃ x, x = ns[k] := ⟨_, rfl⟩
      rw [← hq] at k0 he
      have HQ := hide hq
      clear hc hq
      by_cases hx : x = s
      · have HR := hide (HN.out.here hlt (HQ.out.symm.trans hx))
        rw [decide_eq_true hx.symm] at he
        clear hx
        go_wp2
        go_ret
        exact ⟨ret_int HR.out.symm, rfl⟩
      · have HR := hide (HN.out.next hlt (fun e => hx (HQ.out.trans e)))
        rw [decide_eq_false (fun e => hx e.symm)] at he
        clear hx
        go_wp2
        go_round
        case rel => exact ⟨k + 1, by omega, by go_num, HR.out⟩
        case measure => simp [intOf]; omega
    · obtain rfl : k = ns.length := by omega
      have HR := hide (HN.out.none (by omega))
      go_wp2
      go_ret
      exact ⟨ret_int HR.out.symm, rfl⟩

theorem Gm.has_lt {G : Gm.Gr} {z : Int} (h : Gm.has G z = true) : (0 ≤ z → ∃ k : Nat, z = (k : Int) ∧ k < G.ts.length) ∧ (¬ 0 ≤ z → ∃ k : Nat, -1 - z = (k : Int) ∧ k < G.ns.length) := by
  unfold Gm.has at h
  constructor
  · intro h0
    rw [if_pos h0] at h
    exact ⟨z.toNat, by omega, by have := of_decide_eq_true h; omega⟩
  · intro h0
    rw [if_neg h0] at h
    exact ⟨(-1 - z).toNat, by omega, by have := of_decide_eq_true h; omega⟩

set_option maxHeartbeats 1000000 in
theorem gname_any (v : Value) (G : Gm.Gr) (B : Nat) (z : Int) (hz : Gm.In z) (w : World) (hg : RdGr w B v G) (hB : B ≤ w.heap.size) :
    Calls Tryz.prog 9 #[v, .int .i64 z] w fun e w' => e = .returned (.string (K.str (Gm.name G z))) ∧ Below w.heap.size w w' := by
  have HB := hide (fun o => (Below.refl w.heap.size w).alloc (Nat.le_refl _) o)
  have HH := hide (fun (x : World) (h : Below w.heap.size w x) => has_any v G B z hz x (hg.below h hB))
  have HG := hide hg
  obtain ⟨AT, cT, AN, cN, AR, cR, rfl, ⟨hlT, hmT⟩, ⟨hlN, hmN⟩, _, ht, hn, _⟩ := hg
  have HT := hide ht
  have HN := hide hn
  clear ht hn
  by_cases hh : Gm.has G z = true
  · obtain ⟨hp, hq⟩ := Gm.has_lt hh
    unfold Gm.name
    rw [if_pos hh]
    by_cases h0 : 0 ≤ z
    · obtain ⟨k, rfl, hk⟩ := hp h0
      obtain ⟨g, o, rfl, hgb, hc⟩ := HT.out (by omega)
      have k0 := (hc k hk).1
      have hgs : g < w.heap.size := by omega
      have HE : Hid ((Gm.names G.ts).getD (k : Int).toNat [] = G.ts[k].nm) := hide (by simp [Gm.names, hk])
      rw [if_pos h0, HE.out]
      rw [hh] at HH
      generalize G.ts[k].nm = nm at *
      clear hc hp hq hz hh
      go_enter Tryz.func9, Tryz.ntmps9
      go_wp2_with fail
      refine (HH.out _ (HB.out _)).mono ?_; rintro _ w2 ⟨rfl, hb⟩
      have k1 : w2.cell? ⟨g, o + k * 3, none⟩ = some (.string (K.str nm)) := (((HB.out _).trans (hb.mono (by simp))).cell (p := ⟨g, o + k * 3, none⟩) hgs).trans k0
      have HB2 := hide ((HB.out _).trans (hb.mono (by simp)))
      have hbb := hb.block w.heap.size (by simp)
      rw [heap_alloc_new] at hbb
      have hz2 : w.heap.size < w2.heap.size := (Array.getElem?_eq_some_iff.1 hbb).1
      have c0 := cell_of_row w2 _ 0 _ _ _ hbb
      clear hb hbb
      go_wp2
      go_ret
      exact ⟨rfl, HB2.out⟩
    · obtain ⟨k, hkk, hk⟩ := hq h0
      obtain ⟨g, o, rfl, hgb, hc⟩ := HN.out (by omega)
      have k0 := hc k hk
      have hgs : g < w.heap.size := by omega
      have HE : Hid (G.ns.getD (-1 - z).toNat [] = G.ns[k]) := hide (by rw [hkk]; simp [hk])
      have HX := hide (fun w => non_any z hz.1 hz.2 w)
      rw [if_neg h0, HE.out]
      rw [hh] at HH
      rw [hkk] at HX
      generalize G.ns[k] = nm at *
      have h0' : decide (0 ≤ z) = false := decide_eq_false h0
      clear hc hp hq hz hh hkk
      go_enter Tryz.func9, Tryz.ntmps9
      go_wp2_with fail
      refine (HH.out _ (HB.out _)).mono ?_; rintro _ w2 ⟨rfl, hb⟩
      have k1 : w2.cell? ⟨g, o + k, none⟩ = some (.string (K.str nm)) := (((HB.out _).trans (hb.mono (by simp))).cell (p := ⟨g, o + k, none⟩) hgs).trans k0
      have HB2 := hide ((HB.out _).trans (hb.mono (by simp)))
      have hbb := hb.block w.heap.size (by simp)
      rw [heap_alloc_new] at hbb
      have hz2 : w.heap.size < w2.heap.size := (Array.getElem?_eq_some_iff.1 hbb).1
      have c0 := cell_of_row w2 _ 1 _ _ _ hbb
      clear hb hbb
      go_wp2_with fail
      go_quiet ((go_at_call 17; exact Calls.quiet_of_same (HX.out _)))
      go_wp2
      go_ret
      exact ⟨rfl, below_drewN HB2.out _⟩
  · have hh : Gm.has G z = false := by simpa using hh
    unfold Gm.name
    rw [hh] at HH ⊢
    clear hz hh
    go_enter Tryz.func9, Tryz.ntmps9
    go_wp2_with fail
    refine (HH.out _ (HB.out _)).mono ?_; rintro _ w2 ⟨rfl, hb⟩
    have HB2 := hide ((HB.out _).trans (hb.mono (by simp)))
    clear hb
    go_wp2
    go_ret
    exact ⟨rfl, HB2.out⟩
end Go.Proofs.YtoehbkgdodogkaaGreat

/- Contracts over this program: a symbol's name by the document's own function; which symbol has a name; which grammars are more than is looked at. -/
namespace Go.Proofs.YtoehbkgdodogkaaGreat
set_option maxRecDepth 100000
open Go.RowKit

set_option maxHeartbeats 1000000 in
theorem rname9_any (v : Value) (G : Gm.Gr) (B : Nat) (z : Int) (hz : Gm.In z) (w : World) (hg : RdGr w B v G) (hB : B ≤ w.heap.size) :
    Calls Tryz.prog 10 #[v, .int .i64 z] w fun e w' => e = .returned (.string (K.str (Gm.name G z))) ∧ Below w.heap.size w w' := by
  have HB := hide (fun o => (Below.refl w.heap.size w).alloc (Nat.le_refl _) o)
  have HH := hide (fun (x : World) (h : Below w.heap.size w x) => rhas_any9 v G B z hz x (hg.below h hB))
  obtain ⟨AT, cT, AN, cN, AR, cR, rfl, ⟨hlT, hmT⟩, ⟨hlN, hmN⟩, _, ht, hn, _⟩ := hg
  have HT := hide ht
  have HN := hide hn
  clear ht hn
  by_cases hh : Gm.has G z = true
  · obtain ⟨hp, hq⟩ := Gm.has_lt hh
    unfold Gm.name
    rw [if_pos hh]
    by_cases h0 : 0 ≤ z
    · obtain ⟨k, rfl, hk⟩ := hp h0
      obtain ⟨g, o, rfl, hgb, hc⟩ := HT.out (by omega)
      have k0 := (hc k hk).1
      have hgs : g < w.heap.size := by omega
      have HE : Hid ((Gm.names G.ts).getD (k : Int).toNat [] = G.ts[k].nm) := hide (by simp [Gm.names, hk])
      rw [if_pos h0, HE.out]
      rw [hh] at HH
      generalize G.ts[k].nm = nm at *
      clear hc hp hq hz hh
      go_enter Tryz.func10, Tryz.ntmps10
      go_wp2_with fail
      refine (HH.out _ (HB.out _)).mono ?_; rintro _ w2 ⟨rfl, hb⟩
      have k1 : w2.cell? ⟨g, o + k * 3, none⟩ = some (.string (K.str nm)) := (((HB.out _).trans (hb.mono (by simp))).cell (p := ⟨g, o + k * 3, none⟩) hgs).trans k0
      have HB2 := hide ((HB.out _).trans (hb.mono (by simp)))
      have hbb := hb.block w.heap.size (by simp)
      rw [heap_alloc_new] at hbb
      have hz2 : w.heap.size < w2.heap.size := (Array.getElem?_eq_some_iff.1 hbb).1
      have c0 := cell_of_row w2 _ 0 _ _ _ hbb
      clear hb hbb
      go_wp2
      go_ret
      exact ⟨rfl, HB2.out⟩
    · obtain ⟨k, hkk, hk⟩ := hq h0
      obtain ⟨g, o, rfl, hgb, hc⟩ := HN.out (by omega)
      have k0 := hc k hk
      have hgs : g < w.heap.size := by omega
      have HE : Hid (G.ns.getD (-1 - z).toNat [] = G.ns[k]) := hide (by rw [hkk]; simp [hk])
      have hs : IntKind.i64.wrap (-1 - z) = (k : Int) := by rw [← hkk]; exact IntWalk.i64_in _ (by have := hz.1; have := hz.2; omega)
      rw [if_neg h0, HE.out]
      rw [hh] at HH
      generalize G.ns[k] = nm at *
      have h0' : decide (0 ≤ z) = false := decide_eq_false h0
      clear hc hp hq hz hh hkk
      go_enter Tryz.func10, Tryz.ntmps10
      go_wp2_with fail
      refine (HH.out _ (HB.out _)).mono ?_; rintro _ w2 ⟨rfl, hb⟩
      have k1 : w2.cell? ⟨g, o + k, none⟩ = some (.string (K.str nm)) := (((HB.out _).trans (hb.mono (by simp))).cell (p := ⟨g, o + k, none⟩) hgs).trans k0
      have HB2 := hide ((HB.out _).trans (hb.mono (by simp)))
      have hbb := hb.block w.heap.size (by simp)
      rw [heap_alloc_new] at hbb
      have hz2 : w.heap.size < w2.heap.size := (Array.getElem?_eq_some_iff.1 hbb).1
      have c0 := cell_of_row w2 _ 1 _ _ _ hbb
      clear hb hbb
      go_wp2
      go_ret
      exact ⟨rfl, HB2.out⟩
  · have hh : Gm.has G z = false := by simpa using hh
    unfold Gm.name
    rw [hh] at HH ⊢
    clear hz hh
    go_enter Tryz.func10, Tryz.ntmps10
    go_wp2_with fail
    refine (HH.out _ (HB.out _)).mono ?_; rintro _ w2 ⟨rfl, hb⟩
    have HB2 := hide ((HB.out _).trans (hb.mono (by simp)))
    clear hb
    go_wp2
    go_ret
    exact ⟨rfl, HB2.out⟩

def NoneB (rs : List Gm.Rl) (k : Nat) : Prop := ∀ i (h : i < rs.length), i < k → rs[i].r.length ≤ 20
set_option maxHeartbeats 1000000 in
theorem great9_any (v : Value) (G : Gm.Gr) (B : Nat) (w : World) (hg : RdGr w B v G) (hB : B ≤ w.heap.size) :
    Calls Tryz.prog 6 #[v] w fun e w' => e = .returned (.bool (Gm.great G)) ∧ Below w.heap.size w w' := by
  have HB := hide (fun o => (Below.refl w.heap.size w).alloc (Nat.le_refl _) o)
  obtain ⟨AT, cT, AN, cN, AR, cR, rfl, ⟨hlT, hmT⟩, ⟨hlN, hmN⟩, ⟨hlR, hmR⟩, _, _, hr⟩ := hg
  have HR := hide hr
  clear hr
  unfold Gm.great
  by_cases h1 : 40 < G.ts.length
  · rw [decide_eq_true h1]
    go_enter Tryz.func6, Tryz.ntmps6
    go_wp2
    go_ret
    exact ⟨rfl, HB.out _⟩
  by_cases h2 : 40 < G.ns.length
  · rw [decide_eq_true h2]
    simp only [Bool.or_true, Bool.true_or]
    go_enter Tryz.func6, Tryz.ntmps6
    go_wp2
    go_ret
    exact ⟨rfl, HB.out _⟩
  by_cases h3 : 60 < G.rs.length
  · rw [decide_eq_true h3]
    simp only [Bool.or_true, Bool.true_or]
    go_enter Tryz.func6, Tryz.ntmps6
    go_wp2
    go_ret
    exact ⟨rfl, HB.out _⟩
  rw [decide_eq_false h1, decide_eq_false h2, decide_eq_false h3]
  simp only [Bool.false_or]
  have hlen : G.rs.length ≤ 60 := by omega
  go_enter Tryz.func6, Tryz.ntmps6
  go_wp2
  go_loop [3] (fun vi => ∃ (k : Nat), k ≤ G.rs.length ∧ vi = .int .i64 k ∧ NoneB G.rs k) (fun vi => G.rs.length - (intOf vi).toNat)
  case atStart => exact ⟨0, Nat.zero_le _, rfl, fun _ _ h => by omega⟩
  case round =>
    obtain ⟨k, hk, rfl, hn⟩ := hrel
    have HN := hide hn
    clear hn
    by_cases hlt : k < G.rs.length
    · obtain ⟨g, o, rfl, hgb, hc⟩ := HR.out (by omega)
      obtain ⟨_, ⟨A', c', k1, k2, k3, _⟩, _⟩ := hc k hlt
      have hgs : g < w.heap.size := by omega
      by_cases hx : 20 < G.rs[k].r.length
      · have HE : Hid ((G.rs.any fun r => decide (20 < r.r.length)) = true) := hide (List.any_eq_true.2 ⟨_, List.getElem_mem hlt, by simpa using hx⟩)
        generalize G.rs[k].r.length = m at *
        clear hc
        go_wp2
        go_ret
        exact ⟨ret_bool HE.out.symm, HB.out _⟩
      · have HE : Hid (NoneB G.rs (k + 1)) := hide (fun i hi hik => by
          rcases Nat.lt_or_ge i k with q | q
          · exact HN.out i hi q
          · obtain rfl : i = k := by omega
            omega)
        generalize G.rs[k].r.length = m at *
        clear hc
        go_wp2
        go_round
        case rel => exact ⟨k + 1, by omega, by go_num, HE.out⟩
        case measure => simp [intOf]; omega
    · obtain rfl : k = G.rs.length := by omega
      have HE : Hid ((G.rs.any fun r => decide (20 < r.r.length)) = false) := hide (by
        rw [List.any_eq_false]
        intro x hx
        obtain ⟨i, hi, rfl⟩ := List.getElem_of_mem hx
        have := HN.out i hi hi
        simp; omega)
      go_wp2
      go_ret
      exact ⟨ret_bool HE.out.symm, HB.out _⟩

set_option maxHeartbeats 1000000 in
theorem gfind_any (v : Value) (G : Gm.Gr) (s : List Int) (B : Nat) (w : World) (hg : RdGr w B v G) (hf : Gm.Fit G) (hs : K.Tx s) (hB : B ≤ w.heap.size) (hln : G.ns.length ≤ 1000000) :
    Calls Tryz.prog 16 #[v, .string (K.str s)] w fun e w' => e = .returned (.tuple #[.int .i64 (Gm.look G s).1, .bool (Gm.look G s).2]) ∧ Below w.heap.size w w' := by
  obtain ⟨AT, cT, AN, cN, AR, cR, rfl, ⟨hl, hm⟩, ⟨hl2, hm2⟩, _, ht, hn, _⟩ := hg
  have HB0 := hide (Below.refl w.heap.size w)
  have HT := hide ht
  have HI := hide (fun (x : World) (h : Below w.heap.size w x) => index_str AN G.ns s B cN x (hn.keep fun g o hg => h.cell (p := ⟨g, o, none⟩) (Nat.lt_of_lt_of_le hg hB)) hf.n hs (by omega))
  have HF := hide hf.t
  have HL : Hid ((Gm.names G.ts).length = G.ts.length) := hide (by simp [Gm.names])
  clear ht hf hn
  have hnge := Gm.find_ge G.ns s
  have hnlt := Gm.find_lt G.ns s
  go_enter Tryz.func16, Tryz.ntmps16
  go_wp2
  go_loopw [12] (fun vi wr => ∃ (k : Nat), k ≤ G.ts.length ∧ vi = .int .i64 k ∧ fnd (Gm.names G.ts) s k ∧ Below (w.heap.size + 1) (w.alloc (.cells #[.slice AT G.ts.length cT, .slice AN G.ns.length cN, .slice AR G.rs.length cR, .int .i64 G.st] 26)) wr) (fun vi _ => G.ts.length - (intOf vi).toNat)
  case atStart => exact ⟨0, Nat.zero_le _, rfl, fnd.zero _ _, Below.refl _ _⟩
  case round =>
    obtain ⟨k, hk, rfl, hn, hb⟩ := hrel
    have HN := hide hn
    have HBW := hide (((HB0.out).alloc (Nat.le_refl _) _).trans (hb.mono (Nat.le_succ _)))
    have hsz : w.heap.size + 1 ≤ wr.heap.size := by simpa using hb.size
    have hbb := hb.block w.heap.size (Nat.lt_succ_self _)
    rw [heap_alloc_new] at hbb
    have hz2 : w.heap.size < wr.heap.size := (Array.getElem?_eq_some_iff.1 hbb).1
    have c0 := cell_of_row wr _ 0 _ _ _ hbb
    have c1 := cell_of_row wr _ 1 _ _ _ hbb
    have HBA := hide (fun o => hb.alloc hsz o)
    clear hn hb hbb
    by_cases hlt : k < G.ts.length
    · obtain ⟨g, o, rfl, hgb, hc⟩ := HT.out (by omega)
      have hgs : g < w.heap.size := by omega
      have k0 := (HBW.out.cell (p := ⟨g, o + k * 3, none⟩) hgs).trans (hc k hlt).1
      have k1 := (HBW.out.cell (p := ⟨g, o + k * 3 + 1, none⟩) hgs).trans (hc k hlt).2.1
      have k2 := (HBW.out.cell (p := ⟨g, o + k * 3 + 2, none⟩) hgs).trans (hc k hlt).2.2
      have hq := (HF.out _ (List.getElem_mem hlt)).1
      have hnm : (Gm.names G.ts)[k]'(by rw [HL.out]; exact hlt) = G.ts[k].nm := by simp [Gm.names]
      have he := K.eqB hq hs
      have HQ := hide hnm
      clear hc hq hnm c0 c1
      generalize G.ts[k].lv = lv at *
      generalize G.ts[k].wy = wy at *
      generalize G.ts[k].nm = x at *
      by_cases hx : x = s
      · have HR := hide (HN.out.here (by rw [HL.out]; exact hlt) (HQ.out.trans hx))
        have HE : Hid (Gm.look G s = ((k : Int), true)) := hide (by unfold Gm.look Gm.term; rw [HR.out, if_pos (by omega)])
        rw [decide_eq_true hx] at he

        clear hx
        go_wp2
        go_ret2
        exact ⟨by rw [HE.out]; rfl, ((HB0.out).alloc (Nat.le_refl _) _).trans ((HBA.out _).mono (Nat.le_succ _))⟩
      · have HR := hide (HN.out.next (by rw [HL.out]; exact hlt) (fun e => hx (HQ.out.symm.trans e)))
        rw [decide_eq_false hx] at he
        clear hx
        go_wp2
        go_roundw
        case rel => exact ⟨k + 1, by omega, by go_num, HR.out, HBA.out _⟩
        case measure => simp [intOf]; omega
    · obtain rfl : k = G.ts.length := by omega
      have HR := hide (HN.out.none (by rw [HL.out]; omega))
      clear hk hlt
      by_cases hx : 0 ≤ Gm.find G.ns s
      · have HE : Hid (Gm.look G s = (-1 - Gm.find G.ns s, true)) := hide (by unfold Gm.look Gm.term Gm.non; rw [HR.out, if_neg (by omega), if_pos hx])
        have HX := hide (fun w => non_any (Gm.find G.ns s) (by omega) (by omega) w)

        generalize Gm.find G.ns s = z at *
        clear hnge hnlt
        go_wp2_with fail
        refine (HI.out _ HBW.out).mono ?_; rintro _ _ ⟨rfl, rfl⟩
        go_wp2_with fail
        refine (HX.out _).mono ?_; rintro _ _ ⟨rfl, rfl⟩
        go_wp2
        go_ret2
        exact ⟨by rw [HE.out]; rfl, HBW.out⟩
      · have HE : Hid (Gm.look G s = (0, false)) := hide (by unfold Gm.look Gm.term Gm.non; rw [HR.out, if_neg (by omega), if_neg hx])

        have hx' : decide (0 ≤ Gm.find G.ns s) = false := decide_eq_false hx
        generalize Gm.find G.ns s = z at *
        clear hnge hnlt
        go_wp2_with fail
        refine (HI.out _ HBW.out).mono ?_; rintro _ _ ⟨rfl, rfl⟩
        go_wp2
        go_ret2
        exact ⟨by rw [HE.out]; rfl, HBW.out⟩
end Go.Proofs.YtoehbkgdodogkaaGreat
