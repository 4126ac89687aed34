/- The walk of NatParts over this program: it answers true, for every number and every divisor, and writes nothing that was there. -/
import Derived.Test.YthnfdbgejmkaaaaDoorFrame
namespace Go.Proofs.YthnfdbgejmkaaaaDoor
open Go.RowKit

theorem canon_of_right {xs : List Int} (hx : M.Lim xs) (h : right xs = true) : xs = M.canon (M.val xs).toNat := M.canon_of_last hx (by
  unfold right at h; simp at h
  rcases h with h | h
  · exact .inl h
  · right; simpa [List.getD] using h.2)

theorem parts_num (v d : Nat) : v / d * d + v % d = v := by rw [Nat.mul_comm]; exact Nat.div_add_mod v d

set_option maxHeartbeats 4000000 in
set_option maxRecDepth 100000 in
theorem parts_walk (A : Option Addr) (c : Nat) (xs : List Int) (d : Int) (w : World) (hr : Rd w w.heap.size A xs) (hx : M.Lim xs) (hc : xs.length ≤ c) (hcm : c ≤ 9223372036854775807) (d0 : 0 ≤ d) (d1 : d < 4294967296) (htab : Tab w) :
    Calls Tryd.prog 8 #[.slice A xs.length c, .int .u32 d] w fun e w' => e = .returned (.bool true) ∧ Below w.heap.size w w' := by
  have AL := hide (alive_any w htab)
  have HR := hide hr
  by_cases h1 : right xs = true
  · by_cases h2 : d = 0
    · subst h2
      have RR := hide (fun (W : World) (h : Rd W W.heap.size A xs) => rright_any A c W.heap.size xs W h (by omega))
      have H1 := hide h1
      clear h1 hr htab
      go_enter Tryd.func8, Tryd.ntmps8
      go_wp2_with fail
      refine AL.out.mono ?_
      rintro e w1 ⟨rfl, b1⟩
      go_wp2_with fail
      have q1 := RR.out w1 (HR.out.on b1)
      rw [H1.out] at q1
      refine q1.mono ?_
      rintro e w2 ⟨rfl, rfl⟩
      clear q1
      go_wp2
      go_ret
      exact ⟨rfl, b1⟩
    · obtain ⟨n, rfl⟩ := Int.eq_ofNat_of_zero_le d0
      have hn : n ≠ 0 := by omega
      have hn0 : ((n : Int) == 0) = false := by simpa using h2
      have hl := right_len h1
      have hcan := canon_of_right hx h1
      generalize (M.val xs).toNat = v at *
      have h32 : (M.canon v).length ≤ 32 := by rw [← hcan]; exact hl
      have hq32 : (M.canon (v / n)).length ≤ 32 := by have := canon_len_mono (Nat.div_le_self v n); omega
      have hqn32 : (M.canon (v / n * n)).length ≤ 32 := by
        have := canon_len_mono (show v / n * n ≤ v by have := parts_num v n; omega); omega
      have hr32 : (M.canon (v % n)).length ≤ 32 := by have := canon_len_mono (Nat.mod_le v n); omega
      have hrn : v % n < n := Nat.mod_lt _ (by omega)
      have hn32 : (M.canon n).length ≤ 32 := canon_small (by omega)
      have hdiv : divS xs (n : Int) = (M.canon (v / n), ((v % n : Nat) : Int), 0) := by rw [hcan]; exact divS_canon h32 hn
      have hmul : mulS (M.canon (v / n)) (M.canon n) = (M.canon (v / n * n), 0) := by rw [mulS_canon hq32 hn32, fitL_ok hqn32]
      have hadd : addS (M.canon (v / n * n)) (M.canon (v % n)) = (xs, 0) := by rw [addS_canon hqn32 hr32, parts_num, fitL_ok h32, ← hcan]
      have hrd : ((v % n : Nat) : Int) < (n : Int) := by omega
      have hrb : 0 ≤ ((v % n : Nat) : Int) := by omega
      have DV := hide (fun (W : World) (h : Rd W W.heap.size A xs) => by
        have q := ndiv_any A c W.heap.size (n : Int) xs W h hx hc hcm (Nat.le_refl _) d0 d1
        rw [hdiv] at q; exact q)
      have OD := hide (fun W : World => by
        have q := nof_any (n : Int) W (by omega) (by omega)
        rw [show (n : Int).toNat = n from rfl] at q; exact q)
      have OR := hide (fun W : World => by
        have q := nof_any ((v % n : Nat) : Int) W (by omega) (by omega)
        rw [show ((v % n : Nat) : Int).toNat = v % n from rfl] at q; exact q)
      have MU := hide (fun (W : World) (A1 A2 : Option Addr) (c1 c2 : Nat) (h1 : Rd W W.heap.size A1 (M.canon (v / n))) (h2 : Rd W W.heap.size A2 (M.canon n)) (e1 : (M.canon (v / n)).length ≤ c1) (e2 : c1 ≤ 9223372036854775807) (e3 : (M.canon n).length ≤ c2) (e4 : c2 ≤ 9223372036854775807) => by
        have q := nmul_any A1 A2 c1 c2 W.heap.size _ _ W h1 h2 (M.lim_canon _) (M.lim_canon _) e1 e3 e2 e4 (Nat.le_refl _)
        rw [hmul] at q; exact q)
      have AD := hide (fun (W : World) (A1 A2 : Option Addr) (c1 c2 : Nat) (h1 : Rd W W.heap.size A1 (M.canon (v / n * n))) (h2 : Rd W W.heap.size A2 (M.canon (v % n))) (e1 : (M.canon (v / n * n)).length ≤ c1) (e2 : c1 ≤ 9223372036854775807) (e3 : (M.canon (v % n)).length ≤ c2) (e4 : c2 ≤ 9223372036854775807) => by
        have q := nadd_any A1 A2 c1 c2 W.heap.size _ _ W h1 h2 (M.lim_canon _) (M.lim_canon _) e1 e3 e2 e4 (Nat.le_refl _)
        rw [hadd] at q; exact q)
      have RR := hide (fun (W : World) (h : Rd W W.heap.size A xs) => by
        have q := rright_any A c W.heap.size xs W h (by omega)
        rw [h1] at q; exact q)
      generalize M.canon (v / n) = Q at *
      generalize M.canon n = N at *
      generalize M.canon (v / n * n) = QN at *
      generalize M.canon (v % n) = R at *
      generalize ((v % n : Nat) : Int) = r at *
      have hxl : xs.length ≤ 9223372036854775807 := by omega
      clear hdiv hmul hadd hcan h1 h2 hr htab h32 hqn32 hn hrn
      go_enter Tryd.func8, Tryd.ntmps8
      go_wp2_with fail
      refine AL.out.mono ?_
      rintro e w1 ⟨rfl, b1⟩
      go_wp2_with fail
      refine (RR.out w1 (HR.out.on b1)).mono ?_
      rintro e w2 ⟨rfl, rfl⟩
      go_wp2_with fail
      refine (DV.out w1 (HR.out.on b1)).mono ?_
      rintro e w2 ⟨Aq, cq, rfl, q1, q2, q3, b2⟩
      have e2 := b1.trans (b2.mono b1.size)
      go_wp2_with fail
      refine (OD.out w2).mono ?_
      rintro e w3 ⟨An, cn, rfl, n1, n2, n3, b3⟩
      have e3 := e2.trans (b3.mono e2.size)
      go_wp2_with fail
      refine (MU.out w3 Aq An cq cn (q3.on b3) n3 q1 q2 n1 n2).mono ?_
      rintro e w4 ⟨Ay, cy, rfl, y1, y2, y3, b4⟩
      have e4 := e3.trans (b4.mono e3.size)
      go_wp2_with fail
      refine (OR.out w4).mono ?_
      rintro e w5 ⟨Ar, cr, rfl, r1, r2, r3, b5⟩
      have e5 := e4.trans (b5.mono e4.size)
      go_wp2_with fail
      refine (AD.out w5 Ay Ar cy cr (y3.on b5) r3 y1 y2 r1 r2).mono ?_
      rintro e w6 ⟨Az, cz, rfl, z1, z2, z3, b6⟩
      have e6 := e5.trans (b6.mono e5.size)
      go_wp2_with fail
      have q := same_any Az A cz c w6.heap.size xs xs w6 z3 (HR.out.on e6) hxl hxl
      rw [show decide (xs = xs) = true by simp] at q
      refine q.mono ?_
      rintro e w7 ⟨rfl, n7, h7⟩
      have e7 : Below w.heap.size w w7 := by rw [h7]; exact below_drewN e6 _
      clear q h7
      go_wp2
      go_ret
      exact ⟨rfl, e7⟩
  · have h1 : right xs = false := by simpa using h1
    have RR := hide (fun (W : World) (h : Rd W W.heap.size A xs) => rright_any A c W.heap.size xs W h (by omega))
    have H1 := hide h1
    clear h1 hr htab
    go_enter Tryd.func8, Tryd.ntmps8
    go_wp2_with fail
    refine AL.out.mono ?_
    rintro e w1 ⟨rfl, b1⟩
    go_wp2_with fail
    have q1 := RR.out w1 (HR.out.on b1)
    rw [H1.out] at q1
    refine q1.mono ?_
    rintro e w2 ⟨rfl, rfl⟩
    clear q1
    go_wp2
    go_ret
    exact ⟨rfl, b1⟩
end Go.Proofs.YthnfdbgejmkaaaaDoor
