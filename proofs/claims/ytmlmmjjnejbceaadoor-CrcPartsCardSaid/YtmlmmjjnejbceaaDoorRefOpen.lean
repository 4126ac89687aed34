/- Bytes as texts over this program, and the document's own answer for opened frames. -/
import Derived.Test.YtmlmmjjnejbceaaDoorRefCrc
namespace Go.Proofs.YtmlmmjjnejbceaaDoor
open Go.RowKit

/-- Bytes as a text. -/
def K.bytes (l : List Int) : List UInt8 := l.map fun z => UInt8.ofNat z.toNat
def K.str (l : List Int) : ByteArray := ⟨(K.bytes l).toArray⟩
theorem K.bytes_at {l : List Int} (h : K.Bytes l) (j : Nat) (hj : j < (K.bytes l).length) : (((K.bytes l)[j]).toNat : Int) = l.getD j 0 := by
  have hj' : j < l.length := by simpa [K.bytes] using hj
  have hb := h.getD j
  rw [L.gd_lt hj'] at hb ⊢
  simp only [K.bytes, List.getElem_map]
  generalize l[j] = z at *
  have : (UInt8.ofNat z.toNat).toNat = z.toNat := by simp [UInt8.toNat_ofNat']; omega
  rw [this]; omega
theorem K.bytes_inj {l m : List Int} (hl : K.Bytes l) (hm : K.Bytes m) (h : K.bytes l = K.bytes m) : l = m := by
  have hlen : l.length = m.length := by have := congrArg List.length h; simpa [K.bytes] using this
  refine L.getD_ext hlen fun i hi => ?_
  have h1 := K.bytes_at hl i (by simpa [K.bytes] using hi)
  have h2 := K.bytes_at hm i (by simpa [K.bytes] using (hlen ▸ hi))
  rw [← h1, ← h2]
  simp only [h]
theorem K.str_eq {l m : List Int} (hl : K.Bytes l) (hm : K.Bytes m) : (K.str l = K.str m) ↔ l = m := by
  constructor
  · intro h
    refine K.bytes_inj hl hm ?_
    have := congrArg (fun s : ByteArray => s.data.toList) h
    simpa [K.str] using this
  · rintro rfl; rfl

theorem str_ne {a b : ByteArray} (h : a ≠ b) : (a.toList == b.toList) = false := by
  rw [ByteArray.toList_eq, ByteArray.toList_eq, beq_eq_false_iff_ne]
  intro e
  apply h
  cases a; cases b
  simpa using e

/-- string(b): no memory is asked. -/
theorem str_conv {w : World} {B : Nat} {A : Option Addr} {l : List Int} (h : RdB w B A l) (hl : K.Bytes l) (c : Nat) :
    (convert 22 9 (.slice A l.length c)).run Tryd.prog w = .ok (.string (K.str l)) w := by
  have hlen : (K.bytes l).length = l.length := by simp [K.bytes]
  rcases Nat.eq_zero_or_pos l.length with h0 | h0
  · have hn := List.eq_nil_of_length_eq_zero h0
    subst hn
    rw [run_convert_bytes_string w _ _ 5 A _ c Tryd.underlying22 Tryd.underlying5 Tryd.underlying9]
    rcases A with _ | ad
    · rfl
    · rw [run_bytesToString w ad [].length c [] (by rfl)]; rfl
  · obtain ⟨g, o, rfl, _, hc⟩ := h (by omega)
    rw [← hlen]
    refine run_convert_bytes_back w _ _ 5 ⟨g, o, none⟩ c (K.bytes l) Tryd.underlying22 Tryd.underlying5 Tryd.underlying9 fun j hj => ?_
    have e : ((⟨g, o, none⟩ : Addr).add j) = ⟨g, o + j, none⟩ := by unfold Addr.add; by_cases h0 : j = 0 <;> simp [h0]
    rw [e, hc j (by omega), K.bytes_at hl j hj]

set_option maxHeartbeats 1000000 in
theorem ropen_any (A : Option Addr) (c : Nat) (l : List Int) (w : World) (hr : RdB w w.heap.size A l) (hl : K.Bytes l) (hn : l.length ≤ 100000) (hc : l.length ≤ c) :
    Calls Tryd.prog 14 #[.slice A l.length c] w (Got2B (K.openS l) (K.valid l) w) := by
  by_cases h4 : 4 ≤ l.length
  · obtain ⟨m, hm⟩ : ∃ m, l.length = m + 4 := ⟨l.length - 4, by omega⟩
    have hlt : l.take m = l.take (l.length - 4) := by rw [show l.length - 4 = m by omega]
    have hlm : (l.take m).length = m := by rw [List.length_take]; omega
    have hfb := K.frame_bytes (hl.take m)
    have hbl := hl.take m
    have hv : K.valid l = decide (K.str (K.frame (l.take m)) = K.str l) := by
      rw [Bool.eq_iff_iff, decide_eq_true_iff, K.str_eq hfb hl, hlt]
      constructor
      · exact K.valid_frame
      · intro h; rw [← h]; exact K.frame_valid _
    have hop : K.openS l = if K.valid l then l.take m else [] := by unfold K.openS; rw [show l.length - 4 = m by omega]
    have hR := hide (hr.take m)
    have FR := hide (fun (A : Option Addr) (c : Nat) (w : World) (h : RdB w w.heap.size A (l.take m)) => rframe_any A c (l.take m) w h hbl (by rw [hlm]; omega))
    have CL := hide (fun (w1 : World) (h : Below w.heap.size w w1) => show (convert 22 9 (.slice A (m + 4) c)).run Tryd.prog w1 = .ok (.string (K.str l)) w1 by
      rw [← hm]; exact str_conv (hr.below h (Nat.le_refl _)) hl c)
    have CF := hide (fun (w1 : World) (A : Option Addr) (n c : Nat) (hn : n = (K.frame (l.take m)).length) (h : RdB w1 w1.heap.size A (K.frame (l.take m))) => show (convert 22 9 (.slice A n c)).run Tryd.prog w1 = .ok (.string (K.str (K.frame (l.take m)))) w1 by
      rw [hn]; exact str_conv h hfb c)
    rw [hm]
    generalize K.valid l = b at *
    generalize K.openS l = op at *
    generalize K.frame (l.take m) = fr at *
    generalize l.take m = lm at *
    generalize K.str fr = s1 at *
    generalize K.str l = s2 at *
    have HV := hide hv
    have HOP := hide hop
    have HR := hide hr
    clear hv hop hr hlt hfb hbl hl
    obtain ⟨g, o, rfl, _, _⟩ := HR.out (by omega)
    have hcm2 : (m : Int) ≤ (c : Int) := by omega
    have hm0 : (0 : Int) ≤ (m : Int) := by omega
    subst hlm
    go_enter Tryd.func14, Tryd.ntmps14
    go_wp2_with (at_builtin; refine apnB_arm rfl (.tmp 8) (.tmp 13) _ rfl Tryd.underlying22 w.heap.size _ [] rfl (ownB_empty w) w.heap.size lm.length c (some ⟨g, o, none⟩) lm rfl rfl (hR.out.alloc (Nat.le_refl _) _) (by simp; omega) (by simp) ?_; intro v4 w4 ho4 hg4)
    have hb4 := below_grownB ((Below.refl w.heap.size w).alloc (Nat.le_refl _) (.cells #[] 5)) (ownB_empty w) hg4 (by simp)
    rw [List.nil_append] at ho4
    have HO4 := hide ho4
    obtain ⟨A4, c4, rfl, _, _, hr4⟩ := ho4.form
    have R4 := hide hr4
    have B4 := hide hb4
    clear ho4 hg4 hr4 hb4
    have L5 := hide (fun (w5 : World) (h5 : Below w4.heap.size w4 w5) => show Calls Tryd.prog 15 #[.slice A4 lm.length c4] w5 (fun e w' => ∃ A n ca, e = .returned (.slice A n ca) ∧ Below w4.heap.size w4 w' ∧ (convert 22 9 (.slice A n ca)).run Tryd.prog w' = .ok (.string s1) w' ∧ (convert 22 9 (.slice (some ⟨g, o, none⟩) (lm.length + 4) c)).run Tryd.prog w' = .ok (.string s2) w') from
      (FR.out A4 c4 w5 (R4.out.up h5)).mono (by
        rintro _ w6 ⟨v, rfl, ho, hb⟩
        obtain ⟨A, ca, rfl, _, _, hr6⟩ := ho.form
        have h6 := h5.trans (hb.mono h5.size)
        exact ⟨A, _, ca, rfl, h6, CF.out w6 A _ ca rfl hr6, CL.out w6 (B4.out.trans (h6.mono B4.out.size))⟩))
    have CL4 := CL.out w4.drew (below_drewN B4.out 1)
    clear CF FR
    have hd4 : Below w4.heap.size w4 w4.drew := below_drewN (Below.refl _ _) 1
    by_cases hs : s1 = s2
    · subst hs
      have hb := HV.out
      rw [decide_eq_true rfl] at hb
      subst hb
      have hb2 := HOP.out
      rw [if_pos rfl] at hb2
      subst hb2
      clear HOP HV
      go_region_with ((go_at_call 15; refine (L5.out _ hd4).mono ?_; rintro _ w6 ⟨A6, n6, c6, rfl, h6, hx6, hy6⟩))
      all_goals
        go_wp2
        go_ret2
        exact ⟨_, rfl, HO4.out.below h6 (Nat.le_refl _), B4.out.trans (h6.mono B4.out.size)⟩
    · have hb := HV.out
      rw [decide_eq_false hs] at hb
      subst hb
      have hb2 := HOP.out
      rw [if_neg (by decide)] at hb2
      subst hb2
      clear HOP HV
      have hs1 := str_ne hs
      go_region_with ((go_at_call 15; refine (L5.out _ hd4).mono ?_; rintro _ w6 ⟨A6, n6, c6, rfl, h6, hx6, hy6⟩))
      all_goals
        go_wp2
        go_ret2
        exact ⟨_, rfl, OwnB.nil _ _, B4.out.trans (h6.mono B4.out.size)⟩
  · have hv : K.valid l = false := by unfold K.valid; rw [decide_eq_false h4, Bool.false_and]
    have hop : K.openS l = [] := by unfold K.openS; rw [hv]; rfl
    rw [hv, hop]
    clear hv hop hr hl
    go_enter Tryd.func14, Tryd.ntmps14
    go_wp2
    go_ret2
    exact ⟨_, rfl, OwnB.nil _ _, Below.refl _ _⟩
end Go.Proofs.YtmlmmjjnejbceaaDoor
