/- The walk of the statement of frames over this program. -/
import Derived.Test.YtmlmmjjnejbceaaDoorAlive4
import Derived.Test.YtmlmmjjnejbceaaDoorCalm
namespace Go.Proofs.YtmlmmjjnejbceaaDoor
open Go.RowKit

theorem crcFrames_long (A : Option Addr) (c : Nat) (l : List Int) (w : World) (h2 : ¬ l.length ≤ 2000) (hn : l.length ≤ 140737488351232) (ht : Fours w) :
    Calls Tryd.prog 4 #[.slice A l.length c] w fun e w' => e = .returned (.bool true) ∧ Below w.heap.size w w' := by
  have HA := hide (alive4_any w ht)
  have h3 : (l.length : Int) > 2000 := by omega
  clear ht
  go_enter Tryd.func4, Tryd.ntmps4
  go_wp2_with fail
  refine HA.out.mono ?_; rintro _ w1 ⟨rfl, hb1⟩
  go_wp2
  go_ret
  exact ⟨rfl, hb1⟩

set_option maxHeartbeats 2000000 in
theorem crcFrames_short (A : Option Addr) (c : Nat) (l : List Int) (w : World) (h2 : l.length ≤ 2000) (hr : RdB w w.heap.size A l) (hl : K.Bytes l) (hc : l.length ≤ c) (ht : Fours w) :
    Calls Tryd.prog 4 #[.slice A l.length c] w fun e w' => e = .returned (.bool true) ∧ Below w.heap.size w w' := by
  have HA := hide (alive4_any w ht)
  have hfb := K.frame_bytes hl
  have hfl := K.frame_len l
  have hob : K.Bytes (K.openS l) := by
    unfold K.openS; split
    · exact hl.take _
    · exact K.Bytes.nil
  have F1 := hide (fun (A : Option Addr) (c : Nat) (w : World) (h : RdB w w.heap.size A l) (ht : Fours w) => frame_any A c l w h hl (by omega) ht)
  have F2 := hide (fun (A : Option Addr) (c : Nat) (w : World) (h : RdB w w.heap.size A l) (hc : l.length ≤ c) (ht : Fours w) => open_any A c l w h hl (by omega) hc ht)
  have F3 := hide (fun (w1 : World) (h : Below w.heap.size w w1) => ropen_any A c l w1 (hr.up h) hl (by omega) hc)
  have F4 := hide (fun (A : Option Addr) (c : Nat) (w : World) (h : RdB w w.heap.size A (K.frame l)) (hc : (K.frame l).length ≤ c) (ht : Fours w) => by
    have q := open_any A c _ w h hfb (by omega) hc ht
    rw [K.frame_open, K.frame_valid] at q
    exact q)
  have F5 := hide (fun (w1 : World) (h : Below w.heap.size w w1) => rframe_any A c l w1 (hr.up h) hl (by omega))
  have CB := hide (fun (w1 : World) (A : Option Addr) (n c : Nat) (hn : n = l.length) (h : RdB w1 w1.heap.size A l) => show (convert 22 9 (.slice A n c)).run Tryd.prog w1 = .ok (.string (K.str l)) w1 by
    rw [hn]; exact str_conv h hl c)
  have CF := hide (fun (w1 : World) (A : Option Addr) (n c : Nat) (hn : n = (K.frame l).length) (h : RdB w1 w1.heap.size A (K.frame l)) => show (convert 22 9 (.slice A n c)).run Tryd.prog w1 = .ok (.string (K.str (K.frame l))) w1 by
    rw [hn]; exact str_conv h hfb c)
  have CO := hide (fun (w1 : World) (A : Option Addr) (n c : Nat) (hn : n = (K.openS l).length) (h : RdB w1 w1.heap.size A (K.openS l)) => show (convert 22 9 (.slice A n c)).run Tryd.prog w1 = .ok (.string (K.str (K.openS l))) w1 by
    rw [hn]; exact str_conv h hob c)
  generalize K.str (K.frame l) = sf at *
  generalize K.frame l = fr at *
  generalize K.str (K.openS l) = so at *
  generalize K.openS l = op at *
  generalize K.valid l = va at *
  generalize K.str l = sl at *
  have HR := hide hr
  have HT := hide ht
  clear hr ht hl hfb hob hfl hc
  go_enter Tryd.func4, Tryd.ntmps4
  go_wp2_with fail
  refine HA.out.mono ?_; rintro _ w1 ⟨rfl, hb1⟩
  have B1 := hide hb1
  clear hb1
  go_wp2_with (at_builtin; refine apnB_arm rfl (.tmp 16) (.tmp 17) _ rfl Tryd.underlying22 w1.heap.size _ [] rfl (ownB_empty w1) w.heap.size l.length c A l rfl rfl ((HR.out.below B1.out (Nat.le_refl _)).alloc B1.out.size _) (by simp; omega) (by simp) ?_; intro v2 w2 ho2 hg2)
  have hb2 := below_grownB ((Below.refl w1.heap.size w1).alloc (Nat.le_refl _) (.cells #[] 5)) (ownB_empty w1) hg2 (by simp)
  have B2 := hide (B1.out.trans (hb2.mono B1.out.size))
  rw [List.nil_append] at ho2
  obtain ⟨A2, c2, rfl, hc2, _, hr2⟩ := ho2.form
  have R2 := hide hr2
  have C2 := hide hc2
  clear hb2 ho2 hg2 hr2 hc2
  go_wp2_with fail
  refine (F1.out A2 c2 w2 R2.out (HT.out.below B2.out)).mono ?_; rintro _ w3 ⟨v3, rfl, ho3, hb3⟩
  obtain ⟨A3, c3, rfl, hc3, _, hr3⟩ := ho3.form
  have B3 := hide (B2.out.trans (hb3.mono B2.out.size))
  have R23 := hide (R2.out.up hb3)
  have R3 := hide hr3
  have C3 := hide hc3
  clear hb3 ho3 hr3 hc3
  go_wp2_with fail
  refine (F2.out A2 c2 w3 R23.out C2.out (HT.out.below B3.out)).mono ?_; rintro _ w4 ⟨v4, rfl, ho4, hb4⟩
  obtain ⟨A4, c4, rfl, _, _, hr4⟩ := ho4.form
  have B4 := hide (B3.out.trans (hb4.mono B3.out.size))
  have R24 := hide (R23.out.up hb4)
  have R34 := hide (R3.out.up hb4)
  have R4 := hide hr4
  clear hb4 ho4 hr4
  go_wp2_with fail
  refine (F3.out w4 B4.out).mono ?_; rintro _ w5 ⟨v5, rfl, ho5, hb5⟩
  obtain ⟨A5, c5, rfl, _, _, hr5⟩ := ho5.form
  have B5 := hide (B4.out.trans (hb5.mono B4.out.size))
  have R25 := hide (R24.out.up hb5)
  have R35 := hide (R34.out.up hb5)
  have R45 := hide (R4.out.up hb5)
  have R5 := hide hr5
  clear hb5 ho5 hr5
  go_wp2_with fail
  refine (F4.out A3 c3 w5 R35.out C3.out (HT.out.below B5.out)).mono ?_; rintro _ w6 ⟨v6, rfl, ho6, hb6⟩
  obtain ⟨A6, c6, rfl, _, _, hr6⟩ := ho6.form
  have B6 := hide (B5.out.trans (hb6.mono B5.out.size))
  have hRb := fun (w7 : World) (h : Below w6.heap.size w6 w7) => HR.out.up (B6.out.trans (h.mono B6.out.size))
  have R26 := R25.out.up hb6
  have R36 := R35.out.up hb6
  have R46 := R45.out.up hb6
  have R56 := R5.out.up hb6
  have CF6 := fun x : Calm.On w6.heap.size w6 => CF.out x.1 A3 _ c3 rfl (R36.up x.2)
  have L := hide (fun (w7 : World) (h7 : Below w6.heap.size w6 w7) => show Calls Tryd.prog 15 #[.slice A l.length c] w7 (fun e w' => ∃ A7 n7 c7, e = .returned (.slice A7 n7 c7) ∧ Below w.heap.size w w' ∧ Below w6.heap.size w6 w' ∧
      (convert 22 9 (.slice A7 n7 c7)).run Tryd.prog w' = .ok (.string sf) w' ∧
      (convert 22 9 (.slice A3 fr.length c3)).run Tryd.prog w' = .ok (.string sf) w' ∧
      (convert 22 9 (.slice A4 op.length c4)).run Tryd.prog w' = .ok (.string so) w' ∧
      (convert 22 9 (.slice A5 op.length c5)).run Tryd.prog w' = .ok (.string so) w' ∧
      (convert 22 9 (.slice A6 l.length c6)).run Tryd.prog w' = .ok (.string sl) w' ∧
      (convert 22 9 (.slice A2 l.length c2)).run Tryd.prog w' = .ok (.string sl) w' ∧
      (convert 22 9 (.slice A l.length c)).run Tryd.prog w' = .ok (.string sl) w') from
    (F5.out w7 (B6.out.trans (h7.mono B6.out.size))).mono (by
      rintro _ w8 ⟨v, rfl, ho, hb⟩
      obtain ⟨A7, c7, rfl, _, _, hr7⟩ := ho.form
      have h8 := h7.trans (hb.mono h7.size)
      exact ⟨A7, _, c7, rfl, B6.out.trans (h8.mono B6.out.size), h8, CF.out w8 A7 _ c7 rfl hr7, CF.out w8 A3 _ c3 rfl (R36.up h8), CO.out w8 A4 _ c4 rfl (R46.up h8), CO.out w8 A5 _ c5 rfl (R56.up h8), CB.out w8 A6 _ c6 rfl (hr6.up h8), CB.out w8 A2 _ c2 rfl (R26.up h8), CB.out w8 A _ c rfl (hRb w8 h8)⟩))
  have hd6 : Below w6.heap.size w6 w6.drew := below_drewN (Below.refl _ _) 1
  clear R26 R36 R46 R56 hb6 ho6 hr6 hRb CF CO CB F1 F2 F3 F4 F5 R25 R35 R45 R5 R24 R34 R4 R23 R3 R2 C2 C3 B1 B2 B3 B4 B5 HR HT
  go_wp2_with fail
  refine Calm.region_calm (fun w' => ∃ x : Calm.On w6.heap.size w6, w' = x.1) [([0, 1, 2], 3)] [4, 5, 6, 7, 8, 9, 10, 11, 12, 13, 14, 15, 16, 17, 18, 19, 20, 21, 22, 23, 24, 25, 26, 27, 28, 29, 30, 31, 32, 33, 34, 35] (by kernel_rfl) (by kernel_rfl) (fun _ _ d _ _ h => by cases d <;> exact h) ⟨⟨w6.drew, hd6⟩, rfl⟩ ?_
  simp only [Calm.wpPh, Calm.phOps, Calm.pickOps, List.getElem?_toArray, List.getElem?_cons_zero, List.getElem?_cons_succ]
  repeat (go_big_quiet_step (fail))
  refine wpQuiet_nil ?_
  intro K hK
  rw [if_pos (by rfl)]
  go_wp2_with fail
  refine (L.out _ hd6).mono ?_; rintro _ w7 ⟨A7, n7, c7, rfl, h7, g7, x1, x2, x3, x4, x5, x6, x7⟩
  go_wp2_with fail
  refine ⟨⟨⟨w7, g7⟩, rfl⟩, fun w' => w' = w7, ?_, rfl, ?_⟩
  · intro x hx; exact ⟨⟨w7, g7⟩, hx⟩
  repeat (go_big_quiet_step (fail))
  refine wpQuiet_nil ?_
  go_wp2
  go_ret
  exact ⟨rfl, h7⟩
theorem crcFrames_walk (A : Option Addr) (c : Nat) (l : List Int) (w : World) (hr : RdB w w.heap.size A l) (hl : K.Bytes l) (hn : l.length ≤ 140737488351232) (hc : l.length ≤ c) (ht : Fours w) :
    Calls Tryd.prog 4 #[.slice A l.length c] w fun e w' => e = .returned (.bool true) ∧ Below w.heap.size w w' := by
  by_cases h2 : l.length ≤ 2000
  · exact crcFrames_short A c l w h2 hr hl hc ht
  · exact crcFrames_long A c l w h2 hn ht
end Go.Proofs.YtmlmmjjnejbceaaDoor
