/- The walk of the statement of lists in bytes over this program. -/
import Derived.Test.YtihdkaggjinmmaaAlive5
namespace Go.Proofs.Ytihdkaggjinmmaa
open Go.RowKit

set_option maxHeartbeats 1000000 in
theorem codeLists_long (A A' : Option Addr) (c c' : Nat) (s0 s1 : Int) (l xs : List Int) (w : World) (h2 : ¬ (l.length ≤ 1000 ∧ xs.length ≤ 300)) :
    Calls Try.prog 4 #[.slice A l.length c, .slice A' xs.length c', .agg #[.int .i64 s0, .int .i64 s1]] w fun e w' => e = .returned (.bool true) ∧ Below w.heap.size w w' := by
  have HA := hide (fun w : World => alive5_any w)
  by_cases h3 : (l.length : Int) > 1000
  · clear h2
    go_enter Try.func4, Try.ntmps4
    go_wp2_with fail
    refine (HA.out _).mono ?_; rintro _ w1 ⟨rfl, hb1⟩
    have B1 := hide (((Below.refl w.heap.size w).alloc (Nat.le_refl _) _).trans (hb1.mono (by simp)))
    clear hb1
    go_wp2
    go_ret
    exact ⟨rfl, B1.out⟩
  · have h4 : (xs.length : Int) > 300 := by omega
    clear h2
    go_enter Try.func4, Try.ntmps4
    go_wp2_with fail
    refine (HA.out _).mono ?_; rintro _ w1 ⟨rfl, hb1⟩
    have B1 := hide (((Below.refl w.heap.size w).alloc (Nat.le_refl _) _).trans (hb1.mono (by simp)))
    clear hb1
    go_wp2
    go_ret
    exact ⟨rfl, B1.out⟩

set_option maxHeartbeats 2000000 in
set_option maxRecDepth 100000 in
theorem codeLists_short (A A' : Option Addr) (c c' : Nat) (s0 s1 : Int) (l xs : List Int) (w : World) (h2 : l.length ≤ 1000) (h3 : xs.length ≤ 300) (hr : RdB w w.heap.size A l) (hl : K.Bytes l) (hc : l.length ≤ c) (hm : c ≤ 9223372036854775807) (hi : RdI w w.heap.size A' xs) :
    Calls Try.prog 4 #[.slice A l.length c, .slice A' xs.length c', .agg #[.int .i64 s0, .int .i64 s1]] w fun e w' => e = .returned (.bool true) ∧ Below w.heap.size w w' := by
  have HA := hide (fun w : World => alive5_any w)
  have hpb : K.Bytes (V.putL l xs).1 := by
    unfold V.putL; split
    · exact hl.app (V.puts_bytes xs)
    · exact K.Bytes.nil
  have P1 := hide (fun (w1 : World) (h : Below w.heap.size w w1) => putList_any A A' c c' l xs w1 (hr.up h) (hi.up h) (by omega) (by omega))
  have P2 := hide (fun (w1 : World) (h : Below w.heap.size w w1) => rputList_any A A' c c' l xs w1 (hr.up h) (hi.up h) (by omega) (by omega))
  have G1 := hide (fun (w1 : World) (h : Below w.heap.size w w1) => getList_any A c l s0 s1 w1 (hr.up h) hl hc hm)
  have G2 := hide (fun (w1 : World) (h : Below w.heap.size w w1) => rgetList_any A c l s0 s1 w1 (hr.up h) hl (by omega))
  have CP := hide (fun (w1 : World) (A : Option Addr) (m c : Nat) (hm : m = (V.putL l xs).1.length) (h : RdB w1 w1.heap.size A (V.putL l xs).1) => show (convert 22 9 (.slice A m c)).run Try.prog w1 = .ok (.string (K.str (V.putL l xs).1)) w1 by
    rw [hm]; exact str_conv h hpb c)
  clear hpb hr hl hi hc hm
  generalize V.putL l xs = r at *
  obtain ⟨bs, er⟩ := r
  generalize V.list l s0 s1 = r at *
  obtain ⟨ms, p, fr⟩ := r
  dsimp only at CP
  generalize K.str bs = sb at *
  have FI := hide (fun (A A' : Option Addr) (ca cb : Nat) (w : World) (h1 : RdI w w.heap.size A ms) (h2 : RdI w w.heap.size A' ms) (hl : ms.length ≤ 9223372036854775807) => by
    have q := ints_any A A' ca cb _ _ w h1 h2 hl hl
    rw [decide_eq_true rfl] at q; exact q)
  go_enter Try.func4, Try.ntmps4
  have CE := hide (fun (wk : World) (h : Below (w.alloc (.cells #[.int .i64 s0, .int .i64 s1] 31)).heap.size (w.alloc (.cells #[.int .i64 s0, .int .i64 s1] 31)) wk) =>
    (And.intro ((h.cell (p := ⟨w.heap.size, 0, none⟩) (by simp)).trans (World.cell?_alloc_new w _ _ 0)) ((h.cell (p := ⟨w.heap.size, 1, none⟩) (by simp)).trans (World.cell?_alloc_new w _ _ 1)) :
      wk.cell? ⟨w.heap.size, 0, none⟩ = some (.int .i64 s0) ∧ wk.cell? ⟨w.heap.size, 1, none⟩ = some (.int .i64 s1)))
  have B0 := hide ((Below.refl w.heap.size w).alloc (Nat.le_refl _) (.cells #[.int .i64 s0, .int .i64 s1] 31))
  go_wp2_with fail
  refine (HA.out _).mono ?_; rintro _ w1 ⟨rfl, hb1⟩
  have D1 := hide hb1
  have B1 := hide (B0.out.trans (hb1.mono B0.out.size))
  clear hb1
  go_wp2_with fail
  refine (P1.out w1 B1.out).mono ?_; rintro _ w2 ⟨v2, rfl, ho2, hb2⟩
  have D2 := hide (D1.out.trans (hb2.mono D1.out.size))
  have B2 := hide (B1.out.trans (hb2.mono B1.out.size))
  obtain ⟨A2, c2, rfl, _, _, hr2⟩ := ho2.form
  have R2 := hide hr2
  clear hb2 ho2 hr2
  go_wp2_with fail
  refine (P2.out w2 B2.out).mono ?_; rintro _ w3 ⟨v3, rfl, ho3, hb3⟩
  have D3 := hide (D2.out.trans (hb3.mono D2.out.size))
  have B3 := hide (B2.out.trans (hb3.mono B2.out.size))
  have R23 := hide (R2.out.up hb3)
  obtain ⟨A3, c3, rfl, _, _, hr3⟩ := ho3.form
  have R3 := hide hr3
  clear hb3 ho3 hr3
  obtain ⟨e0, e1⟩ := CE.out w3 D3.out
  go_wp2_with fail
  refine (G1.out w3 B3.out).mono ?_; rintro _ w4 ⟨v4, rfl, ho4, hb4⟩
  have D4 := hide (D3.out.trans (hb4.mono D3.out.size))
  have B4 := hide (B3.out.trans (hb4.mono B3.out.size))
  have R24 := hide (R23.out.up hb4)
  have R34 := hide (R3.out.up hb4)
  obtain ⟨A4, c4, rfl, h44, hm4, hr4⟩ := ho4.form
  have R4 := hide hr4
  have M4 := hide (show ms.length ≤ 9223372036854775807 by have h45 : ms.length ≤ c4 := h44; unfold maxLen at hm4; omega)
  clear hb4 ho4 hr4 e0 e1 h44 hm4
  obtain ⟨e0, e1⟩ := CE.out w4 D4.out
  go_wp2_with fail
  refine (G2.out w4 B4.out).mono ?_; rintro _ w5 ⟨v5, rfl, ho5, hb5⟩
  have B5 := hide (B4.out.trans (hb5.mono B4.out.size))
  have x1 := CP.out w5 A2 _ c2 rfl (R24.out.up hb5)
  have x2 := CP.out w5 A3 _ c3 rfl (R34.out.up hb5)
  have R45 := hide (R4.out.up hb5)
  obtain ⟨A5, c5, rfl, _, _, hr5⟩ := ho5.form
  have R5 := hide hr5
  clear hb5 ho5 hr5 e0 e1
  go_wp2_with fail
  refine (FI.out A4 A5 c4 c5 w5 R45.out R5.out M4.out).mono ?_; rintro _ w6 ⟨rfl, q, hq⟩
  have B6 := hide (show Below w.heap.size w w6 by rw [hq]; exact below_drewN B5.out q)
  clear hq
  go_wp2
  go_ret
  exact ⟨rfl, B6.out⟩

theorem codeLists_walk (A A' : Option Addr) (c c' : Nat) (s0 s1 : Int) (l xs : List Int) (w : World) (hr : RdB w w.heap.size A l) (hl : K.Bytes l) (hc : l.length ≤ c) (hm : c ≤ 9223372036854775807) (hi : RdI w w.heap.size A' xs) :
    Calls Try.prog 4 #[.slice A l.length c, .slice A' xs.length c', .agg #[.int .i64 s0, .int .i64 s1]] w fun e w' => e = .returned (.bool true) ∧ Below w.heap.size w w' := by
  by_cases h2 : l.length ≤ 1000 ∧ xs.length ≤ 300
  · exact codeLists_short A A' c c' s0 s1 l xs w h2.1 h2.2 hr hl hc hm hi
  · exact codeLists_long A A' c c' s0 s1 l xs w h2
end Go.Proofs.Ytihdkaggjinmmaa
