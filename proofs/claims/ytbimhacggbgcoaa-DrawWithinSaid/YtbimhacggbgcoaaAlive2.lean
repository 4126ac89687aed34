/- The statements' fixed fact of draw over this program: it answers true, whatever the memory. -/
import Derived.Test.YtbimhacggbgcoaaRBelow
namespace Go.Proofs.Ytbimhacggbgcoaa
open Go.RowKit

theorem kN_eq {b l : List Int} {v k : Nat} (hm : mayB b = true) (hv : M.val b = (v : Int) + 1) (hc : M.canon v = l) (hk : bitsS l = (k : Int)) : kN b = k := by
  have h := kN_may hm
  rw [hv, show ((v : Int) + 1 - 1).toNat = v by omega, hc, hk] at h
  omega
theorem canon_33 : M.canon 4294967296 = [0, 1] := by
  rw [M.canon_pos (by omega), M.canon_pos (by omega), show 4294967296 / 4294967296 / 4294967296 = 0 by omega, M.canon_zero]; rfl
theorem k3 : kN [3] = 2 := kN_eq (v := 2) (l := [2]) (by decide) (by decide) (C.one (by omega) (by omega)) (by decide)
theorem k01 : kN [0, 1] = 32 := kN_eq (v := 4294967295) (l := [4294967295]) (by decide) (by decide) (C.one (by omega) (by omega)) (by decide)
theorem k1 : kN [1] = 0 := kN_eq (v := 0) (l := []) (by decide) (by decide) M.canon_zero (by decide)
theorem k11 : kN [1, 1] = 33 := kN_eq (v := 4294967296) (l := [0, 1]) (by decide) (by decide) canon_33 (by decide)
theorem s1 : belowS [3] [7, 2, 5] = ([2], 2, 0) := by unfold belowS nN; rw [k3, if_pos (by decide), if_neg (by decide), if_neg (by decide)]; decide
theorem s2 : belowS [0, 1] [9] = ([9], 1, 0) := by unfold belowS nN; rw [k01, if_pos (by decide), if_neg (by decide), if_neg (by decide)]; decide
theorem s3 : belowS [3] [7, 3] = ([], 0, 12) := by unfold belowS nN; rw [k3, if_pos (by decide), if_neg (by decide), if_neg (by decide)]; decide
theorem s4 : belowS [1] [] = ([], 0, 0) := by unfold belowS nN; rw [k1, if_pos (by decide), if_neg (by decide), if_pos (by decide)]
theorem s5 : belowS [] [] = ([], 0, 1) := by unfold belowS; rw [if_neg (by decide)]
theorem n11 : nN [1, 1] = 2 := by unfold nN; rw [k11]

/-- Numbers that are built for a call. -/
def cellsOf (ls : List Int) : Obj := .cells (ls.map (Value.int .u32)).toArray 34
theorem lit1 (w : World) (b : List Int) : Rd (w.alloc (cellsOf b)) (w.alloc (cellsOf b)).heap.size (some ⟨w.heap.size, 0, none⟩) b ∧ Below w.heap.size w (w.alloc (cellsOf b)) :=
  ⟨(UB.new w b).rd0 (by simp), (Below.refl _ _).alloc (Nat.le_refl _) _⟩
theorem lit2 (w : World) (b ws : List Int) : Rd ((w.alloc (cellsOf b)).alloc (cellsOf ws)) ((w.alloc (cellsOf b)).alloc (cellsOf ws)).heap.size (some ⟨w.heap.size, 0, none⟩) b ∧
    Rd ((w.alloc (cellsOf b)).alloc (cellsOf ws)) ((w.alloc (cellsOf b)).alloc (cellsOf ws)).heap.size (some ⟨w.heap.size + 1, 0, none⟩) ws ∧ Below w.heap.size w ((w.alloc (cellsOf b)).alloc (cellsOf ws)) := by
  have h1 := lit1 w b
  have h2 := lit1 (w.alloc (cellsOf b)) ws
  have e : (w.alloc (cellsOf b)).heap.size = w.heap.size + 1 := by simp
  exact ⟨h1.1.up h2.2, by rw [← e]; exact h2.1, h1.2.trans (h2.2.mono h1.2.size)⟩
/-- What is drawn by numbers that are built for the call. -/
theorem below_lit (w : World) (b ws : List Int) (r : List Int × Int × Int) (h : belowS b ws = r) (hb : M.Lim b) (hw : M.Lim ws) (l1 : b.length ≤ 9) (l2 : ws.length ≤ 9) :
    Calls Try.prog 8 #[.slice (some ⟨w.heap.size, 0, none⟩) b.length b.length, .slice (some ⟨w.heap.size + 1, 0, none⟩) ws.length ws.length] ((w.alloc (cellsOf b)).alloc (cellsOf ws)) fun e w' =>
      ∃ A c, e = .returned (.tuple #[.slice A r.1.length c, .int .i64 r.2.1, .int .i64 r.2.2]) ∧ r.1.length ≤ c ∧ c ≤ 9223372036854775807 ∧ Rd w' w'.heap.size A r.1 ∧ Below w.heap.size w w' := by
  obtain ⟨h1, h2, h3⟩ := lit2 w b ws
  refine (below_any _ _ _ _ b ws _ h1 h2 hb hw (Nat.le_refl _) (by omega) (Nat.le_refl _) (by omega)).mono ?_
  rintro e w' ⟨A, c, he, g1, g2, g3, g4⟩
  rw [h] at he g1 g3
  exact ⟨A, c, he, g1, g2, g3, h3.trans (g4.mono h3.size)⟩
theorem same_up (W : World) (A A' : Option Addr) (ca cb : Nat) (xs ys : List Int) (h1 : Rd W W.heap.size A xs) (h2 : Rd W W.heap.size A' ys) (l1 : xs.length ≤ 9223372036854775807) (l2 : ys.length ≤ 9223372036854775807) :
    Calls Try.prog 10 #[.slice A xs.length ca, .slice A' ys.length cb] W fun e w' => e = .returned (.bool (decide (xs = ys))) ∧ Below W.heap.size W w' := by
  refine (same_any A A' ca cb W.heap.size xs ys W h1 h2 l1 l2).mono ?_
  rintro e w' ⟨rfl, n, rfl⟩
  exact ⟨rfl, below_drewN (Below.refl _ _) n⟩
theorem lims {l : List Int} (h : l.all (fun z => decide (0 ≤ z ∧ z < 4294967296)) = true) : M.Lim l := fun z hz => by
  have := List.all_eq_true.1 h z hz; simpa using this

set_option maxHeartbeats 4000000 in
set_option maxRecDepth 100000 in
theorem alive2_any (w : World) : Calls Try.prog 7 #[] w fun e w' => e = .returned (.bool true) ∧ Below w.heap.size w w' := by
  have L1 := hide (fun w : World => show Calls Try.prog 8 #[.slice (some ⟨w.heap.size, 0, none⟩) 1 1, .slice (some ⟨w.heap.size + 1, 0, none⟩) 3 3] ((w.alloc (.cells #[.int .u32 3] 34)).alloc (.cells #[.int .u32 7, .int .u32 2, .int .u32 5] 34)) _ from below_lit w [3] [7, 2, 5] _ s1 (lims (by decide)) (lims (by decide)) (by decide) (by decide))
  have L2 := hide (fun w : World => show Calls Try.prog 8 #[.slice (some ⟨w.heap.size, 0, none⟩) 2 2, .slice (some ⟨w.heap.size + 1, 0, none⟩) 1 1] ((w.alloc (.cells #[.int .u32 0, .int .u32 1] 34)).alloc (.cells #[.int .u32 9] 34)) _ from below_lit w [0, 1] [9] _ s2 (lims (by decide)) (lims (by decide)) (by decide) (by decide))
  have L3 := hide (fun w : World => show Calls Try.prog 8 #[.slice (some ⟨w.heap.size, 0, none⟩) 1 1, .slice (some ⟨w.heap.size + 1, 0, none⟩) 2 2] ((w.alloc (.cells #[.int .u32 3] 34)).alloc (.cells #[.int .u32 7, .int .u32 3] 34)) _ from below_lit w [3] [7, 3] _ s3 (lims (by decide)) (lims (by decide)) (by decide) (by decide))
  have L4 := hide (fun w : World => by
    obtain ⟨h1, h3⟩ := lit1 w [1]
    have q := below_any (some ⟨w.heap.size, 0, none⟩) none 1 0 [1] [] _ h1 (Rd.nil _ _ _) (lims (by decide)) M.Lim.nil (Nat.le_refl _) (by omega) (Nat.le_refl _) (by omega)
    rw [s4] at q
    exact (show Calls Try.prog 8 #[.slice (some ⟨w.heap.size, 0, none⟩) 1 1, .slice none 0 0] (w.alloc (.cells #[.int .u32 1] 34)) (fun e w' => ∃ A c, e = .returned (.tuple #[.slice A 0 c, .int .i64 0, .int .i64 0]) ∧ 0 ≤ c ∧ c ≤ 9223372036854775807 ∧ Rd w' w'.heap.size A [] ∧ Below w.heap.size w w') from
      q.mono (by rintro e w' ⟨A, c, he, g1, g2, g3, g4⟩; exact ⟨A, c, he, g1, g2, g3, h3.trans (g4.mono h3.size)⟩)))
  have L5 := hide (fun w : World => by
    have q := below_any none none 0 0 [] [] w (Rd.nil _ _ _) (Rd.nil _ _ _) M.Lim.nil M.Lim.nil (Nat.le_refl _) (by omega) (Nat.le_refl _) (by omega)
    rw [s5] at q
    exact (show Calls Try.prog 8 #[.slice none 0 0, .slice none 0 0] w (fun e w' => ∃ A c, e = .returned (.tuple #[.slice A 0 c, .int .i64 0, .int .i64 1]) ∧ 0 ≤ c ∧ c ≤ 9223372036854775807 ∧ Rd w' w'.heap.size A [] ∧ Below w.heap.size w w') from q))
  go_enter Try.func7, Try.ntmps7
  go_wp2_with fail
  refine (L1.out w).mono ?_; rintro e w1 ⟨A1, c1, rfl, p1, q1, r1, b1⟩
  go_wp2_with fail
  refine (L2.out w1).mono ?_; rintro e w2 ⟨A2, c2, rfl, p2, q2, r2, b2⟩
  go_wp2_with fail
  refine (L3.out w2).mono ?_; rintro e w3 ⟨A3, c3, rfl, p3, q3, r3, b3⟩
  go_wp2_with fail
  refine (L4.out w3).mono ?_; rintro e w4 ⟨A4, c4, rfl, p4, q4, r4, b4⟩
  go_wp2_with fail
  refine (L5.out w4).mono ?_; rintro e w5 ⟨A5, c5, rfl, p5, q5, r5, b5⟩
  have hb5 : Below w.heap.size w w5 := by
    have e2 := b1.trans (b2.mono b1.size)
    have e3 := e2.trans (b3.mono e2.size)
    have e4 := e3.trans (b4.mono e3.size)
    exact e4.trans (b5.mono e4.size)
  have HX := hide ((((r1.up b2).up b3).up b4).up b5)
  have HY := hide (((r2.up b3).up b4).up b5)
  have SX := hide (fun (W : World) (hb : Below w5.heap.size w5 W) => by
    obtain ⟨h1, h3⟩ := lit1 W [2]
    have q := same_up _ A1 (some ⟨W.heap.size, 0, none⟩) c1 1 [2] [2] ((HX.out.up hb).up h3) h1 (by decide) (by decide)
    exact (show Calls Try.prog 10 #[.slice A1 1 c1, .slice (some ⟨W.heap.size, 0, none⟩) 1 1] (W.alloc (.cells #[.int .u32 2] 34)) (fun e w' => e = .returned (.bool true) ∧ Below W.heap.size W w') from
      q.mono (by rintro e w' ⟨he, g⟩; exact ⟨he, h3.trans (g.mono h3.size)⟩)))
  have SY := hide (fun (W : World) (hb : Below w5.heap.size w5 W) => by
    obtain ⟨h1, h3⟩ := lit1 W [9]
    have q := same_up _ A2 (some ⟨W.heap.size, 0, none⟩) c2 1 [9] [9] ((HY.out.up hb).up h3) h1 (by decide) (by decide)
    exact (show Calls Try.prog 10 #[.slice A2 1 c2, .slice (some ⟨W.heap.size, 0, none⟩) 1 1] (W.alloc (.cells #[.int .u32 9] 34)) (fun e w' => e = .returned (.bool true) ∧ Below W.heap.size W w') from
      q.mono (by rintro e w' ⟨he, g⟩; exact ⟨he, h3.trans (g.mono h3.size)⟩)))
  have ND := hide (fun (W : World) => by
    obtain ⟨h1, h3⟩ := lit1 W [1, 1]
    have q := need_any (some ⟨W.heap.size, 0, none⟩) 2 [1, 1] _ h1 (lims (by decide)) (Nat.le_refl _) (by omega)
    rw [n11] at q
    exact (show Calls Try.prog 11 #[.slice (some ⟨W.heap.size, 0, none⟩) 2 2] (W.alloc (.cells #[.int .u32 1, .int .u32 1] 34)) (fun e w' => e = .returned (.int .i64 2) ∧ Below W.heap.size W w') from
      q.mono (by rintro e w' ⟨he, g⟩; exact ⟨he, h3.trans (g.mono h3.size)⟩)))
  clear b1 b2 b3 b4 b5 r1 r2 r3 r4 r5 L1 L2 L3 L4 L5
  go_wp2_with fail
  refine (SX.out w5 (Below.refl _ _)).mono ?_; rintro e w6 ⟨rfl, b6⟩
  go_wp2_with fail
  refine (SY.out w6 b6).mono ?_; rintro e w7 ⟨rfl, b7⟩
  go_wp2_with fail
  refine (ND.out w7).mono ?_; rintro e w8 ⟨rfl, b8⟩
  have hb8 : Below w.heap.size w w8 := by
    have e6 := hb5.trans (b6.mono hb5.size)
    have e7 := e6.trans (b7.mono e6.size)
    exact e7.trans (b8.mono e7.size)
  clear b6 b7 b8 hb5
  go_wp2
  go_ret
  exact ⟨rfl, hb8⟩
end Go.Proofs.Ytbimhacggbgcoaa
