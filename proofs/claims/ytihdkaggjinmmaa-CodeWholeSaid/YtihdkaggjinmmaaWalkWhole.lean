/- The walk of the statement of lists there and back over this program. -/
import Derived.Test.YtihdkaggjinmmaaAlive5
namespace Go.Proofs.Ytihdkaggjinmmaa
open Go.RowKit

theorem V.items_err (b : List Int) : ∀ (k p : Nat) (acc : List Int), (V.items b k p acc).2.2 ≠ 0 → (V.items b k p acc).1 = [] ∧ (V.items b k p acc).2.1 = 0 := by
  intro k
  induction k with
  | zero => intro p acc h; exact absurd rfl h
  | succ k ih =>
    intro p acc h
    unfold V.items at h ⊢
    split
    · exact ⟨rfl, rfl⟩
    · rename_i h1
      rw [if_neg h1] at h
      split
      · exact ⟨rfl, rfl⟩
      · rename_i h2
        rw [if_neg h2] at h
        exact ih _ _ h
theorem V.list_err (b : List Int) (a most : Int) (h : (V.list b a most).2.2 ≠ 0) : (V.list b a most).1 = [] ∧ (V.list b a most).2.1 = 0 := by
  unfold V.list at h ⊢
  split
  · exact ⟨rfl, rfl⟩
  · rename_i h1
    rw [if_neg h1] at h
    split
    · exact ⟨rfl, rfl⟩
    · rename_i h2
      rw [if_neg h2] at h
      exact V.items_err _ _ _ _ h

theorem codeWhole_long (A A' : Option Addr) (c c' : Nat) (xs l : List Int) (w : World) (h2 : ¬ (xs.length ≤ 300 ∧ l.length ≤ 1000)) :
    Calls Try.prog 6 #[.slice A' xs.length c', .slice A l.length c] w fun e w' => e = .returned (.bool true) ∧ Below w.heap.size w w' := by
  have HA := hide (fun w : World => alive5_any w)
  by_cases h3 : (xs.length : Int) > 300
  · clear h2
    go_enter Try.func6, Try.ntmps6
    go_wp2_with fail
    refine (HA.out _).mono ?_; rintro _ w1 ⟨rfl, hb1⟩
    go_wp2
    go_ret
    exact ⟨rfl, hb1⟩
  · have h4 : (l.length : Int) > 1000 := by omega
    clear h2
    go_enter Try.func6, Try.ntmps6
    go_wp2_with fail
    refine (HA.out _).mono ?_; rintro _ w1 ⟨rfl, hb1⟩
    go_wp2
    go_ret
    exact ⟨rfl, hb1⟩

set_option maxHeartbeats 4000000 in
set_option maxRecDepth 100000 in
theorem codeWhole_short (A A' : Option Addr) (c c' : Nat) (xs l : List Int) (w : World) (h2 : xs.length ≤ 300) (h3 : l.length ≤ 1000) (hi : RdI w w.heap.size A' xs) (hr : RdB w w.heap.size A l) (hl : K.Bytes l) (hc : l.length ≤ c) (hm : c ≤ 9223372036854775807) :
    Calls Try.prog 6 #[.slice A' xs.length c', .slice A l.length c] w fun e w' => e = .returned (.bool true) ∧ Below w.heap.size w w' := by
  have HA := hide (fun w : World => alive5_any w)
  have P1 := hide (fun (w1 : World) (h : Below w.heap.size w w1) => putList_any none A' 0 c' [] xs w1 (RdB.nil _ _ _) (hi.up h) (by simp) (by omega))
  have hps := V.puts_bytes xs
  have G1 := hide (fun (hf : V.fits xs = true) (A : Option Addr) (c : Nat) (w : World) (h : RdB w w.heap.size A (V.puts xs ++ l)) (hc : (V.puts xs ++ l).length ≤ c) (hm : c ≤ 9223372036854775807) => by
    have q := getList_any A c (V.puts xs ++ l) 0 (xs.length : Int) w h (hps.app hl) hc hm
    rw [V.list_puts xs l hf (by omega)] at q; exact q)
  have hpl : V.fits xs = true → (V.puts xs).length ≤ 10000 := fun hf => by
    have h1 := V.all_len xs hf
    have h2 := V.put_len xs.length (by omega)
    unfold V.puts; rw [List.length_append]; omega
  have G2 := hide (fun (w1 : World) (h : Below w.heap.size w w1) => getList_any A c l 0 300 w1 (hr.up h) hl hc hm)
  have HE := hide (V.list_err l 0 300)
  have HK := hide (fun (m : List Int) (q : Nat) (h : V.list l 0 300 = (m, q, 0)) => by
    have hb := V.list_back hl h
    have h7 : l.take q = V.puts m := by have := hb.2.2.2.2.2.2; simpa using this
    have h8 : 0 < (l.take q).length := by rw [h7]; unfold V.puts; rw [List.length_append]; have := V.put_pos m.length; omega
    rw [List.length_take] at h8
    exact (show m.length ≤ 300 ∧ V.fits m = true ∧ q ≤ l.length ∧ l.take q = V.puts m ∧ 0 < q from ⟨by have := hb.2.1; omega, hb.2.2.2.1, hb.2.2.2.2.2.1, h7, by omega⟩))
  have P2 := hide (fun (m : List Int) (hf : V.fits m = true) (hn : m.length ≤ 300) (A : Option Addr) (c : Nat) (w : World) (h : RdI w w.heap.size A m) => by
    have q := putList_any none A 0 c [] m w (RdB.nil _ _ _) h (by simp) (by omega)
    rw [show V.putL [] m = (V.puts m, 0) by unfold V.putL; rw [if_pos hf]; rfl] at q
    exact q)
  have CP := hide (fun (y : List Int) (hy : K.Bytes y) (w1 : World) (A : Option Addr) (m c : Nat) (hm : m = y.length) (h : RdB w1 w1.heap.size A y) => show (convert 22 9 (.slice A m c)).run Try.prog w1 = .ok (.string (K.str y)) w1 by
    rw [hm]; exact str_conv h hy c)
  have FI := hide (fun (A A' : Option Addr) (ca cb : Nat) (w : World) (h1 : RdI w w.heap.size A xs) (h2 : RdI w w.heap.size A' xs) => by
    have q := ints_any A A' ca cb _ _ w h1 h2 (by omega) (by omega)
    rw [decide_eq_true rfl] at q; exact q)
  have HI := hide hi
  have HR := hide hr
  have HC := hide hc
  clear hi hr hc hm hl hps
  by_cases hf : V.fits xs = true
  · rw [show V.putL [] xs = (V.puts xs, 0) by unfold V.putL; rw [if_pos hf]; rfl] at P1
    have hpl' := hpl hf
    have HF := hide hf
    clear hpl hf
    generalize hbs : V.puts xs = bs at *
    clear hbs
    go_enter Try.func6, Try.ntmps6
    go_wp2_with fail
    refine (HA.out _).mono ?_; rintro _ w1 ⟨rfl, hb1⟩
    have B1 := hide hb1
    clear hb1
    go_wp2_with fail
    refine (P1.out w1 B1.out).mono ?_; rintro _ w2 ⟨v2, rfl, ho2, hb2⟩
    have B2 := hide (B1.out.trans (hb2.mono B1.out.size))
    obtain ⟨A2, c2, rfl, _, _, hr2⟩ := ho2.form
    have R2 := hide hr2
    clear hb2 ho2 hr2
    go_wp2_with (first
      | (at_builtin; refine apnB_arm rfl (.tmp 33) (.tmp 34) _ rfl Try.underlying22 w2.heap.size _ [] rfl (ownB_empty w2) w2.heap.size bs.length c2 A2 bs rfl rfl (R2.out.alloc (Nat.le_refl _) _) (by simp; omega) (by simp) ?_; intro v3 w3 ho3 hg3; have hb3 := below_grownB ((Below.refl w2.heap.size w2).alloc (Nat.le_refl _) (.cells #[] 5)) (ownB_empty w2) hg3 (by simp))
      | (at_builtin; refine apnB_arm rfl (.tmp 35) (.tmp 36) _ rfl Try.underlying22 w2.heap.size _ ([] ++ bs) rfl ho3 w.heap.size l.length c A l rfl rfl (HR.out.below (B2.out.trans (hb3.mono B2.out.size)) (Nat.le_refl _)) (by simp; omega) hb3.size ?_; intro v4 w4 ho4 hg4))
    have hb4 := below_grownB hb3 ho3 hg4 hb3.size
    have B4 := hide (B2.out.trans (hb4.mono B2.out.size))
    rw [List.nil_append] at ho4
    obtain ⟨A4, c4, rfl, hc4, hm4, hr4⟩ := ho4.form
    have HN := hide (show (bs ++ l).length = bs.length + l.length from List.length_append)
    generalize bs ++ l = al at *
    have R4 := hide hr4
    have C4 := hide hc4
    have M4 := hide (show c4 ≤ 9223372036854775807 by unfold maxLen at hm4; omega)
    clear ho3 ho4 hg3 hg4 hb3 hb4 hr4 hc4 hm4
    go_wp2_with fail
    refine (G1.out HF.out A4 c4 w4 R4.out C4.out M4.out).mono ?_; rintro _ w5 ⟨v5, rfl, ho5, hb5⟩
    obtain ⟨A5, c5, rfl, _, _, hr5⟩ := ho5.form
    have B5 := hide (B4.out.trans (hb5.mono B4.out.size))
    have R5 := hide hr5
    clear ho5 hb5 hr5
    go_wp2_with fail
    refine (FI.out A5 A' c5 c' w5 R5.out (HI.out.up B5.out)).mono ?_; rintro _ w6 ⟨rfl, q, hq⟩
    have B6 := hide (show Below w.heap.size w w6 by rw [hq]; exact below_drewN B5.out q)
    clear hq R5 R4 C4 M4 R2
    have G3 := G2.out w6 B6.out
    generalize hres : V.list l 0 300 = r at *
    obtain ⟨m, q2, f⟩ := r
    have HRES := hide hres
    have G4 := hide G3
    clear hres G3
    go_wp2_with fail
    refine G4.out.mono ?_; rintro _ w7 ⟨v7, rfl, ho7, hb7⟩
    have B7 := hide (B6.out.trans (hb7.mono B6.out.size))
    obtain ⟨A7, c7, rfl, _, _, hr7⟩ := ho7.form
    have R7 := hide hr7
    clear ho7 hb7 hr7 G4
    by_cases hf0 : f = 0
    · subst hf0
      obtain ⟨k1, k2, k3, k4, k5⟩ := HK.out m q2 rfl
      obtain ⟨g, o, rfl, _, _⟩ := HR.out (by omega)
      go_wp2_with fail
      refine (P2.out m k2 k1 A7 c7 w7 R7.out).mono ?_; rintro _ w8 ⟨v8, rfl, ho8, hb8⟩
      have B8 := hide (B7.out.trans (hb8.mono B7.out.size))
      obtain ⟨A8, c8, rfl, _, _, hr8⟩ := ho8.form
      have R8 := hide hr8
      clear ho8 hb8 hr8
      have hd8 : Below w8.heap.size w8 w8.drew := below_drewN (Below.refl _ _) 1
      have hto0 : (0 : Int) ≤ (q2 : Int) := by omega
      have hto1 : (q2 : Int) ≤ (l.length : Int) := by omega
      have hto2 : (q2 : Int) ≤ (c : Int) := by have := HC.out; omega
      have hto3 : ¬ c = 0 := by have := HC.out; omega
      have CT := fun x : Calm.On w8.heap.size w8 => show (convert 22 9 (.slice (some ⟨g, o, none⟩) q2 c)).run Try.prog x.1 = .ok (.string (K.str (V.puts m))) x.1 by
        have h := ((HR.out.up B8.out).up x.2).take q2
        rw [k4] at h
        exact CP.out _ (V.puts_bytes m) x.1 _ q2 c (by rw [← k4, List.length_take]; omega) h
      have C8 := fun x : Calm.On w8.heap.size w8 => CP.out _ (V.puts_bytes m) x.1 A8 _ c8 rfl (R8.out.up x.2)
      generalize K.str (V.puts m) = sy at *
      generalize V.puts m = pm at *
      clear k1 k2 k4 k5 CP P2 G2 P1 HK HE FI G1 R7 R8
      go_wp2_with fail
      refine Calm.region_calm (fun w' => ∃ x : Calm.On w8.heap.size w8, w' = x.1) [] [0, 1, 2, 3, 4, 5, 6, 7, 8, 9, 10, 11, 12, 13, 14, 15, 16, 17, 18, 19, 20, 21] (by kernel_rfl) (by kernel_rfl) (fun _ _ d _ _ h => by cases d <;> exact h) ⟨⟨w8.drew, hd8⟩, rfl⟩ ?_
      simp only [Calm.wpPh, Calm.phOps, Calm.pickOps, List.getElem?_toArray, List.getElem?_cons_zero, List.getElem?_cons_succ]
      repeat (go_big_quiet_step (fail))
      refine wpQuiet_nil ?_
      go_wp2
      go_ret
      exact ⟨rfl, below_drewN B8.out 1⟩
    · obtain ⟨h8, h9⟩ : m = [] ∧ q2 = 0 := HE.out hf0
      subst h8 h9
      have hne : ((f : Int) != 0) = true := by simp; omega
      clear hf0
      go_wp2
      go_ret
      exact ⟨rfl, B7.out⟩
  · rw [show V.putL [] xs = ([], 1) by unfold V.putL; rw [if_neg hf]] at P1
    clear hpl hf
    go_enter Try.func6, Try.ntmps6
    go_wp2_with fail
    refine (HA.out _).mono ?_; rintro _ w1 ⟨rfl, hb1⟩
    have B1 := hide hb1
    clear hb1
    go_wp2_with fail
    refine (P1.out w1 B1.out).mono ?_; rintro _ w6 ⟨v6, rfl, ho6, hb6⟩
    have B6 := hide (B1.out.trans (hb6.mono B1.out.size))
    clear hb6 ho6
    have G3 := G2.out w6 B6.out
    generalize hres : V.list l 0 300 = r at *
    obtain ⟨m, q2, f⟩ := r
    have HRES := hide hres
    have G4 := hide G3
    clear hres G3
    go_wp2_with fail
    refine G4.out.mono ?_; rintro _ w7 ⟨v7, rfl, ho7, hb7⟩
    have B7 := hide (B6.out.trans (hb7.mono B6.out.size))
    obtain ⟨A7, c7, rfl, _, _, hr7⟩ := ho7.form
    have R7 := hide hr7
    clear ho7 hb7 hr7 G4
    by_cases hf0 : f = 0
    · subst hf0
      obtain ⟨k1, k2, k3, k4, k5⟩ := HK.out m q2 rfl
      obtain ⟨g, o, rfl, _, _⟩ := HR.out (by omega)
      go_wp2_with fail
      refine (P2.out m k2 k1 A7 c7 w7 R7.out).mono ?_; rintro _ w8 ⟨v8, rfl, ho8, hb8⟩
      have B8 := hide (B7.out.trans (hb8.mono B7.out.size))
      obtain ⟨A8, c8, rfl, _, _, hr8⟩ := ho8.form
      have R8 := hide hr8
      clear ho8 hb8 hr8
      have hd8 : Below w8.heap.size w8 w8.drew := below_drewN (Below.refl _ _) 1
      have hto0 : (0 : Int) ≤ (q2 : Int) := by omega
      have hto1 : (q2 : Int) ≤ (l.length : Int) := by omega
      have hto2 : (q2 : Int) ≤ (c : Int) := by have := HC.out; omega
      have hto3 : ¬ c = 0 := by have := HC.out; omega
      have CT := fun x : Calm.On w8.heap.size w8 => show (convert 22 9 (.slice (some ⟨g, o, none⟩) q2 c)).run Try.prog x.1 = .ok (.string (K.str (V.puts m))) x.1 by
        have h := ((HR.out.up B8.out).up x.2).take q2
        rw [k4] at h
        exact CP.out _ (V.puts_bytes m) x.1 _ q2 c (by rw [← k4, List.length_take]; omega) h
      have C8 := fun x : Calm.On w8.heap.size w8 => CP.out _ (V.puts_bytes m) x.1 A8 _ c8 rfl (R8.out.up x.2)
      generalize K.str (V.puts m) = sy at *
      generalize V.puts m = pm at *
      clear k1 k2 k4 k5 CP P2 G2 P1 HK HE FI G1 R7 R8
      go_wp2_with fail
      refine Calm.region_calm (fun w' => ∃ x : Calm.On w8.heap.size w8, w' = x.1) [] [0, 1, 2, 3, 4, 5, 6, 7, 8, 9, 10, 11, 12, 13, 14, 15, 16, 17, 18, 19, 20, 21] (by kernel_rfl) (by kernel_rfl) (fun _ _ d _ _ h => by cases d <;> exact h) ⟨⟨w8.drew, hd8⟩, rfl⟩ ?_
      simp only [Calm.wpPh, Calm.phOps, Calm.pickOps, List.getElem?_toArray, List.getElem?_cons_zero, List.getElem?_cons_succ]
      repeat (go_big_quiet_step (fail))
      refine wpQuiet_nil ?_
      go_wp2
      go_ret
      exact ⟨rfl, below_drewN B8.out 1⟩
    · obtain ⟨h8, h9⟩ : m = [] ∧ q2 = 0 := HE.out hf0
      subst h8 h9
      have hne : ((f : Int) != 0) = true := by simp; omega
      clear hf0
      go_wp2
      go_ret
      exact ⟨rfl, B7.out⟩

theorem codeWhole_walk (A A' : Option Addr) (c c' : Nat) (xs l : List Int) (w : World) (hi : RdI w w.heap.size A' xs) (hr : RdB w w.heap.size A l) (hl : K.Bytes l) (hc : l.length ≤ c) (hm : c ≤ 9223372036854775807) :
    Calls Try.prog 6 #[.slice A' xs.length c', .slice A l.length c] w fun e w' => e = .returned (.bool true) ∧ Below w.heap.size w w' := by
  by_cases h2 : xs.length ≤ 300 ∧ l.length ≤ 1000
  · exact codeWhole_short A A' c c' xs l w h2.1 h2.2 hi hr hl hc hm
  · exact codeWhole_long A A' c c' xs l w h2
end Go.Proofs.Ytihdkaggjinmmaa
