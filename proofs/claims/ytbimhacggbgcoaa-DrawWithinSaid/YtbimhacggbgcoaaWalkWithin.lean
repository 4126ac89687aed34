/- The walk of DrawWithin over this program: it answers true, for every bound and all words, and writes nothing that was there. -/
import Derived.Test.YtbimhacggbgcoaaAlive2
import Derived.Test.YtbimhacggbgcoaaDrawL
namespace Go.Proofs.Ytbimhacggbgcoaa
open Go.RowKit

set_option maxHeartbeats 4000000 in
set_option maxRecDepth 100000 in
theorem drawWithin_walk (A A' A'' : Option Addr) (ca cb cc : Nat) (b ws more : List Int) (w : World) (hr : Rd w w.heap.size A b) (hr' : Rd w w.heap.size A' ws) (hr'' : Rd w w.heap.size A'' more) (hb : M.Lim b) (hw : M.Lim ws) (hm : M.Lim more) (e1 : b.length ≤ ca) (e2 : ca ≤ 9223372036854775807) (e3 : ws.length ≤ cb) (e4 : cb ≤ 9223372036854775807) :
    Calls Try.prog 4 #[.slice A b.length ca, .slice A' ws.length cb, .slice A'' more.length cc] w fun e w' => e = .returned (.bool true) ∧ Below w.heap.size w w' := by
  have AL := hide (alive2_any w)
  have HR := hide hr
  have HR' := hide hr'
  have HR'' := hide hr''
  by_cases h1 : ws.length ≤ 500
  · by_cases h2 : more.length ≤ 500
    · have CB := hide (fun (W : World) (h : Rd W W.heap.size A b) (h' : Rd W W.heap.size A' ws) => below_any A A' ca cb b ws W h h' hb hw e1 e2 e3 e4)
      by_cases h0 : (belowS b ws).2.2 = 0
      · obtain ⟨g1, g2, g3, g4, g5, g6⟩ := belowS_ok hb hw h0
        have CM := hide (fun (W : World) (X : Option Addr) (cx : Nat) (z : List Int) (hz : belowS b (ws ++ more) = belowS b ws) (h : Rd W W.heap.size A b) (h' : Rd W W.heap.size X (ws ++ more)) (k1 : (ws ++ more).length ≤ cx) (k2 : cx ≤ 9223372036854775807) => by
          have q := below_any A X ca cx b (ws ++ more) W h h' hb (hw.append hm) e1 e2 k1 k2
          rw [hz] at q; exact q)
        have CM := hide (fun (W : World) (X : Option Addr) (cx : Nat) => CM.out W X cx [] (g6 more (by omega)))
        have CC := hide (fun (W : World) (X : Option Addr) (cx : Nat) (h' : Rd W W.heap.size A b) (h : Rd W W.heap.size X (belowS b ws).1) (k1 : (belowS b ws).1.length ≤ cx) (k2 : cx ≤ 9223372036854775807) => rcmp_any X A cx ca W.heap.size _ b W h h' g2 hb k1 e1 k2 e2)
        have SM := hide (fun (W : World) (X Y : Option Addr) (cx cy : Nat) (xs : List Int) (h : Rd W W.heap.size X xs) (h' : Rd W W.heap.size Y xs) (l : xs.length ≤ 9223372036854775807) => by
          have q := same_up W X Y cx cy xs xs h h' l l
          rw [show decide (xs = xs) = true by simp] at q; exact q)
        generalize belowS b ws = R at *
        obtain ⟨xs, m, er⟩ := R
        have h0 : er = 0 := h0
        subst h0
        have g1 : cmpS xs b < 0 := g1
        have g4 : 0 ≤ m := g4
        have g5 : m ≤ (ws.length : Int) := g5
        generalize cmpS xs b = cm at *
        clear hr hr' hr'' g2 g3 g6
        go_enter Try.func4, Try.ntmps4
        go_wp2_with fail
        refine AL.out.mono ?_
        rintro e w1 ⟨rfl, b1⟩
        go_wp2_with fail
        refine (CB.out w1 (HR.out.up b1) (HR'.out.up b1)).mono ?_
        rintro e w2 ⟨X, cx, rfl, x1, x2, x3, b2⟩
        have c2 := b1.trans (b2.mono b1.size)
        have l5 : xs.length ≤ 9223372036854775807 := Nat.le_trans x1 x2
        have hr1 := (HR'.out.up c2).alloc (Nat.le_refl _) (.cells #[] 34)
        have HX := hide x3
        clear x3 b1 b2
        go_wp2_with (at_builtin; first | (refine apn_arm rfl (.tmp 41) (.tmp 42) _ rfl Try.underlying22 w2.heap.size _ [] rfl (own_empty w2) w2.heap.size ws.length cb A' ws rfl rfl hr1 (by simp; omega) (by simp) ?_; intro v' w3 h3 h4) | (refine apn_arm rfl (.tmp 43) (.tmp 44) _ rfl Try.underlying22 w2.heap.size v' ([] ++ ws) rfl h3 w3.heap.size more.length cc A'' more rfl rfl ((HR''.out.up c2).up (below_grown ((Below.refl w2.heap.size w2).alloc (Nat.le_refl _) _) (own_empty w2) h4 (by simp))) (by simp; omega) (below_grown ((Below.refl w2.heap.size w2).alloc (Nat.le_refl _) _) (own_empty w2) h4 (by simp)).size ?_; intro v'' w4 h5 h6))
        have b34 : Below w2.heap.size w2 w4 := below_grown (below_grown ((Below.refl w2.heap.size w2).alloc (Nat.le_refl _) _) (own_empty w2) h4 (by simp)) h3 h6 (below_grown ((Below.refl w2.heap.size w2).alloc (Nat.le_refl _) _) (own_empty w2) h4 (by simp)).size
        have c34 := c2.trans (b34.mono c2.size)
        rw [List.nil_append] at h5
        obtain ⟨AO, co, rfl, o1, o2, o3⟩ := h5.form
        have o4 : co ≤ 9223372036854775807 := by unfold maxLen at o2; omega
        have HX4 := hide (HX.out.up b34)
        have HO := hide o3
        have c4 := c34
        clear o3 h3 h4 h5 h6 hr1 b34 c34
        go_wp2_with fail
        refine (CM.out w4 AO co (HR.out.up c4) HO.out o1 o4).mono ?_
        rintro e w5 ⟨Y, cy, rfl, y1, y2, y3, b5⟩
        have c5 := c4.trans (b5.mono c4.size)
        have HY := hide y3
        clear y3
        go_wp2_with fail
        refine (CC.out w5 X cx (HR.out.up c5) (HX4.out.up b5) x1 x2).mono ?_
        rintro e w6 ⟨rfl, rfl⟩
        go_wp2_with fail
        refine (SM.out w5 X Y cx cy xs (HX4.out.up b5) HY.out l5).mono ?_
        rintro e w7 ⟨rfl, b7⟩
        have c7 := c5.trans (b7.mono c5.size)
        clear b5 b7 c5 c4 c2
        go_wp2
        go_ret
        exact ⟨rfl, c7⟩
      · obtain ⟨g1, g2⟩ := belowS_fail h0
        generalize belowS b ws = R at *
        obtain ⟨xs, m, er⟩ := R
        have g1 : xs = [] := g1
        have g2 : m = 0 := g2
        subst g1 g2
        have h0 : (er != 0) = true := by rw [bne_iff_ne]; exact h0
        clear hr hr' hr''
        go_enter Try.func4, Try.ntmps4
        go_wp2_with fail
        refine AL.out.mono ?_
        rintro e w1 ⟨rfl, b1⟩
        go_wp2_with fail
        refine (CB.out w1 (HR.out.up b1) (HR'.out.up b1)).mono ?_
        rintro e w2 ⟨X, cx, rfl, x1, x2, x3, b2⟩
        have c2 := b1.trans (b2.mono b1.size)
        go_wp2
        go_ret
        exact ⟨rfl, c2⟩
    · clear hr hr' hr''
      go_enter Try.func4, Try.ntmps4
      go_wp2_with fail
      refine AL.out.mono ?_
      rintro e w1 ⟨rfl, b1⟩
      go_wp2
      go_ret
      exact ⟨rfl, b1⟩
  · clear hr hr' hr''
    go_enter Try.func4, Try.ntmps4
    go_wp2_with fail
    refine AL.out.mono ?_
    rintro e w1 ⟨rfl, b1⟩
    go_wp2
    go_ret
    exact ⟨rfl, b1⟩
end Go.Proofs.Ytbimhacggbgcoaa
