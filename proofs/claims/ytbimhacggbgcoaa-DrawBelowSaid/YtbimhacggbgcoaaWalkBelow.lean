/- The walk of DrawBelow over this program: it answers true, for every bound and all words, and writes nothing that was there. -/
import Derived.Test.YtbimhacggbgcoaaAlive2
namespace Go.Proofs.Ytbimhacggbgcoaa
open Go.RowKit

set_option maxHeartbeats 4000000 in
set_option maxRecDepth 100000 in
theorem drawBelow_walk (A A' : Option Addr) (ca cb : Nat) (b ws : List Int) (w : World) (hr : Rd w w.heap.size A b) (hr' : Rd w w.heap.size A' ws) (hb : M.Lim b) (hw : M.Lim ws) (e1 : b.length ≤ ca) (e2 : ca ≤ 9223372036854775807) (e3 : ws.length ≤ cb) (e4 : cb ≤ 9223372036854775807) :
    Calls Try.prog 3 #[.slice A b.length ca, .slice A' ws.length cb] w fun e w' => e = .returned (.bool true) ∧ Below w.heap.size w w' := by
  have AL := hide (alive2_any w)
  have HR := hide hr
  have HR' := hide hr'
  by_cases h1 : b.length ≤ 40
  · by_cases h2 : ws.length ≤ 1100
    · have CB := hide (fun (W : World) (X : Option Addr) (cx : Nat) (h : Rd W W.heap.size A b) (h' : Rd W W.heap.size X ws) (g1 : ws.length ≤ cx) (g2 : cx ≤ 9223372036854775807) => below_any A X ca cx b ws W h h' hb hw e1 e2 g1 g2)
      have CR := hide (fun (W : World) (h : Rd W W.heap.size A b) (h' : Rd W W.heap.size A' ws) => rbelow_any A A' ca cb b ws W h h' hb hw e1 e2 e3 e4)
      have N1 := hide (fun (W : World) (h : Rd W W.heap.size A b) => need_any A ca b W h hb e1 e2)
      have N2 := hide (fun (W : World) (h : Rd W W.heap.size A b) => rneed_any A ca b W h hb e1 e2)
      have SM := hide (fun (W : World) (X Y : Option Addr) (cx cy : Nat) (xs : List Int) (h : Rd W W.heap.size X xs) (h' : Rd W W.heap.size Y xs) (l : xs.length ≤ 9223372036854775807) => by
        have q := same_up W X Y cx cy xs xs h h' l l
        rw [show decide (xs = xs) = true by simp] at q; exact q)
      generalize belowS b ws = R at *
      generalize nN b = N at *
      obtain ⟨xs, m, er⟩ := R
      clear hr hr'
      go_enter Try.func3, Try.ntmps3
      go_wp2_with fail
      refine AL.out.mono ?_
      rintro e w1 ⟨rfl, b1⟩
      have hr1 := (HR'.out.up b1).alloc (Nat.le_refl _) (.cells #[] 34)
      go_wp2_with (at_builtin; refine apn_arm rfl (.tmp 22) (.tmp 23) _ rfl Try.underlying22 w1.heap.size _ [] rfl (own_empty w1) w1.heap.size ws.length cb A' ws rfl rfl hr1 (by simp; omega) (by simp) ?_; intro v' w2 h3 h4)
      have b2 : Below w.heap.size w w2 := b1.trans ((below_grown ((Below.refl w1.heap.size w1).alloc (Nat.le_refl _) _) (own_empty w1) h4 (by simp)).mono b1.size)
      rw [List.nil_append] at h3
      obtain ⟨AO, co, rfl, o1, o2, o3⟩ := h3.form
      have o4 : co ≤ 9223372036854775807 := by unfold maxLen at o2; omega
      clear h3 h4 hr1 b1
      have l4 : ws.length ≤ 9223372036854775807 := by omega
      have HO := hide o3
      go_wp2_with fail
      refine (CB.out w2 AO co (HR.out.up b2) HO.out o1 o4).mono ?_
      rintro e w3 ⟨X, cx, rfl, x1, x2, x3, b3⟩
      have c3 := b2.trans (b3.mono b2.size)
      have l5 : xs.length ≤ 9223372036854775807 := Nat.le_trans x1 x2
      go_wp2_with fail
      refine (CR.out w3 (HR.out.up c3) (HR'.out.up c3)).mono ?_
      rintro e w4 ⟨Y, cy, rfl, y1, y2, y3, b4⟩
      have c4 := c3.trans (b4.mono c3.size)
      have HX := hide (x3.up b4)
      have HOO := hide ((HO.out.up b3).up b4)
      have HY := hide y3
      clear o3 x3 y3 b3 b4 b2 c3
      go_wp2_with fail
      refine (SM.out w4 X Y cx cy xs HX.out HY.out l5).mono ?_
      rintro e w5 ⟨rfl, b5⟩
      have c5 := c4.trans (b5.mono c4.size)
      go_wp2_with fail
      refine (N1.out w5 (HR.out.up c5)).mono ?_
      rintro e w6 ⟨rfl, b6⟩
      have c6 := c5.trans (b6.mono c5.size)
      go_wp2_with fail
      refine (N2.out w6 (HR.out.up c6)).mono ?_
      rintro e w7 ⟨rfl, b7⟩
      have c7 := c6.trans (b7.mono c6.size)
      go_wp2_with fail
      refine (SM.out w7 AO A' co cb ws (((HOO.out.up b5).up b6).up b7) (HR'.out.up c7) l4).mono ?_
      rintro e w8 ⟨rfl, b8⟩
      have c8 := c7.trans (b8.mono c7.size)
      clear b5 b6 b7 b8 c4 c5 c6 c7
      go_wp2
      go_ret
      exact ⟨rfl, c8⟩
    · clear hr hr'
      go_enter Try.func3, Try.ntmps3
      go_wp2_with fail
      refine AL.out.mono ?_
      rintro e w1 ⟨rfl, b1⟩
      go_wp2
      go_ret
      exact ⟨rfl, b1⟩
  · clear hr hr'
    go_enter Try.func3, Try.ntmps3
    go_wp2_with fail
    refine AL.out.mono ?_
    rintro e w1 ⟨rfl, b1⟩
    go_wp2
    go_ret
    exact ⟨rfl, b1⟩
end Go.Proofs.Ytbimhacggbgcoaa
