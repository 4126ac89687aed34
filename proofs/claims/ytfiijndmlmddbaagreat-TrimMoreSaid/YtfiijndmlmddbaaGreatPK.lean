/- Part of the proofs over this program: CfgSame2, TrimReduce, CfgRead, Ref8M, Read9, Src9, Alive11T, Bools, Alive11, WalkReduces, TrimM, RcopyO. -/
import Derived.Test.YtfiijndmlmddbaaGreatPJ
namespace Go.Proofs.YtfiijndmlmddbaaGreat
set_option maxRecDepth 100000
open Go.RowKit

/-- Are two grammars the same? -/
noncomputable def Gm.same (G H : Gm.Gr) : Bool := eqb G.ts H.ts && eqb G.ns H.ns && eqb G.rs H.rs && eqb G.st H.st
theorem Gm.same_self (G : Gm.Gr) : Gm.same G G = true := by
  unfold Gm.same
  rw [eqb_yes rfl, eqb_yes rfl, eqb_yes rfl, eqb_yes rfl]; rfl

theorem heap_alloc2_0 (w : World) (o o' : Obj) (n : Nat) : (((w.alloc o).alloc o').drewN n).heap[w.heap.size]? = some o := by
  show ((w.alloc o).alloc o').heap[w.heap.size]? = some o
  rw [Below.heap_alloc _ _ _ (by simp)]
  exact heap_alloc_new w o
theorem heap_alloc2_1 (w : World) (o o' : Obj) (n : Nat) : (((w.alloc o).alloc o').drewN n).heap[w.heap.size + 1]? = some o' := by
  have := heap_alloc_new (w.alloc o) o'
  simpa [World.drewN] using this
set_option maxHeartbeats 2000000 in
theorem gsame_any (v u : Value) (G H : Gm.Gr) (B B' : Nat) (w : World) (hg : RdGr w B v G) (hh : RdGr w B' u H) (fg : Gm.Fit G) (fh : Gm.Fit H) (hB : B ≤ w.heap.size) (hB' : B' ≤ w.heap.size) :
    Calls Tryz.prog 39 #[v, u] w fun e w' => e = .returned (.bool (Gm.same G H)) ∧ Below w.heap.size w w' := by
  have HB0 := hide (fun o o' => ((Below.refl w.heap.size w).alloc (Nat.le_refl _) o).alloc (by simp) o')
  obtain ⟨AT, cT, AN, cN, AR, cR, rfl, ⟨hlT, hmT⟩, ⟨hlN, hmN⟩, ⟨hlR, hmR⟩, ht, hn, hr⟩ := hg
  obtain ⟨BT, dT, BN, dN, BR, dR, rfl, _, _, _, gt, gn, gr⟩ := hh
  have H1 := hide (fun (x : World) (h : Below w.heap.size w x) => equal_tms AT BT cT dT B B' G.ts H.ts x (ht.keep fun g o hg => h.cell (p := ⟨g, o, none⟩) (Nat.lt_of_lt_of_le hg hB)) (gt.keep fun g o hg => h.cell (p := ⟨g, o, none⟩) (Nat.lt_of_lt_of_le hg hB')) (fun x hx => (fg.t x hx).1) (fun x hx => (fh.t x hx).1) (by omega))
  have H2 := hide (fun (x : World) (h : Below w.heap.size w x) => equal_str AN BN cN dN B B' G.ns H.ns x (hn.keep fun g o hg => h.cell (p := ⟨g, o, none⟩) (Nat.lt_of_lt_of_le hg hB)) (gn.keep fun g o hg => h.cell (p := ⟨g, o, none⟩) (Nat.lt_of_lt_of_le hg hB')) (fun x hx => fg.n x hx) (fun x hx => fh.n x hx) (by omega))
  have H3 := hide (fun (x : World) (h : Below w.heap.size w x) => eqf_rule AR BR cR dR B B' G.rs H.rs x (hr.keep fun g o hg => h.cell (p := ⟨g, o, none⟩) (Nat.lt_of_lt_of_le hg hB)) (gr.keep fun g o hg => h.cell (p := ⟨g, o, none⟩) (Nat.lt_of_lt_of_le hg hB')) (Nat.le_trans hB h.size) (Nat.le_trans hB' h.size) (by omega))
  have e4 := int_eqb G.st H.st
  unfold Gm.same
  clear ht hn hr gt gn gr hlT hmT hlN hmN hlR hmR fg fh hB hB'
  generalize G.st = st at *
  generalize H.st = st' at *
  cases q1 : eqb G.ts H.ts
  · rw [q1] at H1
    clear q1 e4 H2 H3
    go_enter Tryz.func39, Tryz.ntmps39
    go_wp2_with fail
    refine (H1.out _ (HB0.out _ _)).mono ?_; rintro _ w2 ⟨rfl, hd⟩
    have HD := hide ((HB0.out _ _).trans ((below_drewE9 hd).mono (by simp; omega)))
    clear hd
    go_wp2
    go_ret
    exact ⟨rfl, HD.out⟩
  · rw [q1] at H1
    clear q1
    cases q2 : eqb G.ns H.ns
    · rw [q2] at H2
      clear q2 e4 H3
      go_enter Tryz.func39, Tryz.ntmps39
      go_wp2_with fail
      refine (H1.out _ (HB0.out _ _)).mono ?_; rintro _ w2 ⟨rfl, n1, rfl⟩
      go_wp2_with fail
      refine (H2.out _ (below_drewN (HB0.out _ _) _)).mono ?_; rintro _ w3 ⟨rfl, n2, rfl⟩
      go_wp2
      go_ret
      exact ⟨rfl, below_drewN (HB0.out _ _) _⟩
    · rw [q2] at H2
      clear q2
      cases q3 : eqb G.rs H.rs
      · rw [q3] at H3
        clear q3 e4
        go_enter Tryz.func39, Tryz.ntmps39
        go_wp2_with fail
        refine (H1.out _ (HB0.out _ _)).mono ?_; rintro _ w2 ⟨rfl, n1, rfl⟩
        go_wp2_with fail
        refine (H2.out _ (below_drewN (HB0.out _ _) _)).mono ?_; rintro _ w3 ⟨rfl, n2, rfl⟩
        go_wp2_with fail
        refine (H3.out _ (below_drewN (HB0.out _ _) _)).mono ?_; rintro _ w4 ⟨rfl, hb⟩
        have HD := hide ((below_drewN (HB0.out _ _) _).trans (hb.mono (by simp [World.drewN]; omega)))
        clear hb
        go_wp2
        go_ret
        exact ⟨rfl, HD.out⟩
      · rw [q3] at H3
        clear q3
        generalize eqb st st' = b4 at *
        go_enter Tryz.func39, Tryz.ntmps39
        go_wp2_with fail
        refine (H1.out _ (HB0.out _ _)).mono ?_; rintro _ w2 ⟨rfl, n1, rfl⟩
        go_wp2_with fail
        refine (H2.out _ (below_drewN (HB0.out _ _) _)).mono ?_; rintro _ w3 ⟨rfl, n2, rfl⟩
        go_wp2_with fail
        refine (H3.out _ (below_drewN (HB0.out _ _) _)).mono ?_; rintro _ w4 ⟨rfl, hb⟩
        have HD := hide ((below_drewN (HB0.out _ _) _).trans (hb.mono (by simp [World.drewN]; omega)))
        have b0 := (hb.block w.heap.size (by simp [World.drewN]; omega)).trans (heap_alloc2_0 w _ _ _)
        have b1 := (hb.block (w.heap.size + 1) (by simp [World.drewN])).trans (heap_alloc2_1 w _ _ _)
        have z0 : w.heap.size < w4.heap.size := (Array.getElem?_eq_some_iff.1 b0).1
        have z1 : w.heap.size + 1 < w4.heap.size := (Array.getElem?_eq_some_iff.1 b1).1
        have c0 := cell_of_row w4 _ 3 _ _ _ b0
        have c1 := cell_of_row w4 _ 3 _ _ _ b1
        clear hb b0 b1
        go_wp2
        go_ret
        exact ⟨ret_bool (by simp), HD.out⟩

end Go.Proofs.YtfiijndmlmddbaaGreat

namespace Go.Proofs.YtfiijndmlmddbaaGreat
set_option maxRecDepth 100000
open Go.RowKit

def Gm.gr0 : Gm.Gr := ⟨[], [], [], 0⟩
theorem gr0_rd (w : World) (B : Nat) : RdGr w B (.agg #[.slice none 0 0, .slice none 0 0, .slice none 0 0, .int .i64 0]) Gm.gr0 := ⟨none, 0, none, 0, none, 0, rfl, by simp [Gm.gr0], by simp [Gm.gr0], by simp [Gm.gr0], fun h => absurd rfl h, fun h => absurd rfl h, fun h => absurd rfl h⟩
theorem build_gr11 (w : World) : (Instr.build 26 #[]).run Tryz.prog w = .ok (.agg #[.slice none 0 0, .slice none 0 0, .slice none 0 0, .int .i64 0]) w := run_build w 26 _ _ (by kernel_rfl)
/-- What is refused: 1, 9; or not: 0. -/
noncomputable def Gm.rdE (G : Gm.Gr) : Int := if Gm.right G = true then (if Gm.tr (Gm.Gn true G.rs G.st) = true then 0 else 9) else 1
noncomputable def Gm.rdG (G : Gm.Gr) : Gm.Gr := if Gm.rdE G = 0 then Gm.reduce G else Gm.gr0
noncomputable def Gm.rdL (G : Gm.Gr) : List Int := if Gm.rdE G = 0 then Gm.kl G G.rs.length else []
theorem Gm.rdE_no {G : Gm.Gr} (h : Gm.right G = false) : Gm.rdE G = 1 := by unfold Gm.rdE; rw [h]; rfl
theorem Gm.rdE_empty {G : Gm.Gr} (h : Gm.right G = true) (k : Gm.tr (Gm.Gn true G.rs G.st) = false) : Gm.rdE G = 9 := by unfold Gm.rdE; rw [h, k]; rfl
theorem Gm.rdE_ok {G : Gm.Gr} (h : Gm.right G = true) (k : Gm.tr (Gm.Gn true G.rs G.st) = true) : Gm.rdE G = 0 := by unfold Gm.rdE; rw [h, k]; rfl
/-- What Reduce answers. -/
def RedAns (G : Gm.Gr) (w : World) (e : Ending) (w' : World) : Prop := ∃ g A c, e = .returned (.tuple #[g, .slice A (Gm.rdL G).length c, .int .i64 (Gm.rdE G)]) ∧ RdGr w' w'.heap.size g (Gm.rdG G) ∧ RdI w' w'.heap.size A (Gm.rdL G) ∧ Below w.heap.size w w'

theorem RedAns.no {G : Gm.Gr} {w w' : World} {er : Int} (h : Gm.rdE G = er) (h0 : er ≠ 0) (hb : Below w.heap.size w w') : RedAns G w (.returned (.tuple #[.agg #[.slice none 0 0, .slice none 0 0, .slice none 0 0, .int .i64 0], .slice none 0 0, .int .i64 er])) w' := by
  have hL : Gm.rdL G = [] := by unfold Gm.rdL; rw [if_neg (by rw [h]; exact h0)]
  have hG : Gm.rdG G = Gm.gr0 := by unfold Gm.rdG; rw [if_neg (by rw [h]; exact h0)]
  refine ⟨_, none, 0, by rw [hL, h]; rfl, ?_, ?_, hb⟩
  · rw [hG]; exact gr0_rd _ _
  · rw [hL]; exact RdI.nil _ _ _
theorem RedAns.ok {G : Gm.Gr} {w w' : World} {g : Value} {A : Option Addr} {c : Nat} {ks : List Int} (h : Gm.rdE G = 0) (hk : ks = Gm.kl G G.rs.length) (hg : RdGr w' w'.heap.size g (Gm.reduce G)) (hr : RdI w' w'.heap.size A ks) (hb : Below w.heap.size w w') : RedAns G w (.returned (.tuple #[g, .slice A ks.length c, .int .i64 0])) w' := by
  have hL : Gm.rdL G = ks := by unfold Gm.rdL; rw [if_pos h, hk]
  have hG : Gm.rdG G = Gm.reduce G := by unfold Gm.rdG; rw [if_pos h]
  exact ⟨g, A, c, by rw [hL, h], by rw [hG]; exact hg, by rw [hL]; exact hr, hb⟩
set_option maxHeartbeats 8000000 in
theorem tReduce_any (v : Value) (G : Gm.Gr) (B : Nat) (w : World) (hg : RdGr w B v G) (hf : Gm.Fit G) (hB : B ≤ w.heap.size) :
    Calls Tryz.prog 19 #[v] w (RedAns G w) := by
  have H1 := hide (fun (x : World) (h : Below w.heap.size w x) => gright_any v G B x (hg.below h hB) hf (Nat.le_trans hB h.size))
  have H2 := hide (fun (x : World) (h : Below w.heap.size w x) => productive_any v G B x (hg.below h hB) hf (Nat.le_trans hB h.size))
  have H3 := hide (fun (q : Gm.right G = true) (x : World) (h : Below w.heap.size w x) => kept_any v G B x (hg.below h hB) hf (Gm.right_ok.1 q) (Nat.le_trans hB h.size))
  have H4 := hide (fun (q : Gm.right G = true) (hp : Gm.Gn true G.rs G.st) (x : World) (h : Below w.heap.size w x) (AK : Option Addr) (cK : Nat) (hk : RdI x x.heap.size AK (Gm.kl G G.rs.length)) => reduced_any v G B x.heap.size AK cK x (hg.below h hB) hf (Gm.right_ok.1 q) hp (Nat.le_trans hB h.size) hk (Nat.le_refl _))
  have hbg := fun w => build_gr11 w
  obtain ⟨AT, cT, AN, cN, AR, cR, rfl, _⟩ := hg
  obtain ⟨w1, hw1⟩ : ∃ y, y = (w.alloc (.cells #[.slice AT G.ts.length cT, .slice AN G.ns.length cN, .slice AR G.rs.length cR, .int .i64 G.st] 26)).alloc (.cells #[.slice none 0 0, .slice none 0 0, .slice none 0 0, .int .i64 0] 26) := ⟨_, rfl⟩
  have hs1 : w1.heap.size = w.heap.size + 2 := by rw [hw1]; simp
  have HB1 : Hid (Below w.heap.size w w1) := hide (by rw [hw1]; exact ((Below.refl _ w).alloc (Nat.le_refl _) _).alloc (by simp) _)
  have HX0 : Hid (w1.heap[w.heap.size]? = some (.cells #[.slice AT G.ts.length cT, .slice AN G.ns.length cN, .slice AR G.rs.length cR, .int .i64 G.st] 26 (0, 0))) := hide (by rw [hw1, Below.heap_alloc _ _ _ (by simp)]; exact heap_alloc_new w _)
  have HX1 : Hid (w1.heap[w.heap.size + 1]? = some (.cells #[.slice none 0 0, .slice none 0 0, .slice none 0 0, .int .i64 0] 26 (0, 0))) := hide (by rw [hw1]; have := heap_alloc_new (w.alloc (.cells #[.slice AT G.ts.length cT, .slice AN G.ns.length cN, .slice AR G.rs.length cR, .int .i64 G.st] 26)) (.cells #[.slice none 0 0, .slice none 0 0, .slice none 0 0, .int .i64 0] 26); simpa using this)
  have HS1 := hide hs1
  have HQ := hide (fun (y : World) (h : Below w1.heap.size w1 y) => (h.block w.heap.size (by omega)).trans HX0.out)
  have HZ := hide (fun (y : World) (h : Below w1.heap.size w1 y) => (h.block (w.heap.size + 1) (by omega)).trans HX1.out)
  have HBX := hide (fun (y : World) (h : Below w1.heap.size w1 y) => HB1.out.trans (h.mono (by omega)))
  have c0 : w1.cell? ⟨w.heap.size, 0, none⟩ = some (.slice AT G.ts.length cT) := by rw [cell_of_row w1 _ 0 _ _ _ HX0.out]; rfl
  have c1 : w1.cell? ⟨w.heap.size, 1, none⟩ = some (.slice AN G.ns.length cN) := by rw [cell_of_row w1 _ 1 _ _ _ HX0.out]; rfl
  have c2 : w1.cell? ⟨w.heap.size, 2, none⟩ = some (.slice AR G.rs.length cR) := by rw [cell_of_row w1 _ 2 _ _ _ HX0.out]; rfl
  have c3 : w1.cell? ⟨w.heap.size, 3, none⟩ = some (.int .i64 G.st) := by rw [cell_of_row w1 _ 3 _ _ _ HX0.out]; rfl
  have hd0 : w.heap.size < w1.heap.size := by omega
  clear hf hs1
  cases q : Gm.right G
  · rw [q] at H1
    have HE := hide (Gm.rdE_no q)
    clear q H2 H3 H4
    go_enter Tryz.func19, Tryz.ntmps19
    go_upto_region 1 with fail
    rw [← hw1]
    clear hw1
    go_wp2_with fail
    refine (H1.out _ HB1.out).mono ?_; rintro _ w2 ⟨rfl, hb2⟩
    have g0 : w2.cell? ⟨w.heap.size + 1, 0, none⟩ = some (.slice none 0 0) := by rw [cell_of_row w2 _ 0 _ _ _ (HZ.out w2 hb2)]; rfl
    have g1 : w2.cell? ⟨w.heap.size + 1, 1, none⟩ = some (.slice none 0 0) := by rw [cell_of_row w2 _ 1 _ _ _ (HZ.out w2 hb2)]; rfl
    have g2 : w2.cell? ⟨w.heap.size + 1, 2, none⟩ = some (.slice none 0 0) := by rw [cell_of_row w2 _ 2 _ _ _ (HZ.out w2 hb2)]; rfl
    have g3 : w2.cell? ⟨w.heap.size + 1, 3, none⟩ = some (.int .i64 0) := by rw [cell_of_row w2 _ 3 _ _ _ (HZ.out w2 hb2)]; rfl
    have e0 := frozen_of_row w2 _ 0 _ _ (HZ.out w2 hb2)
    have e1 := frozen_of_row w2 _ 1 _ _ (HZ.out w2 hb2)
    have e2 := frozen_of_row w2 _ 2 _ _ (HZ.out w2 hb2)
    have e3 := frozen_of_row w2 _ 3 _ _ (HZ.out w2 hb2)
    have lz := (Array.getElem?_eq_some_iff.1 (HZ.out w2 hb2)).1
    have HBF := hide (fun u1 u2 u3 u4 => ((((HBX.out w2 hb2).setCell (p := ⟨w.heap.size + 1, 0, none⟩) (by simp only; omega) u1).setCell (p := ⟨w.heap.size + 1, 1, none⟩) (by simp only; omega) u2).setCell (p := ⟨w.heap.size + 1, 2, none⟩) (by simp only; omega) u3).setCell (p := ⟨w.heap.size + 1, 3, none⟩) (by simp only; omega) u4)
    clear c0 c1 c2 c3 hb2 H1
    go_wp2
    refine bodyPost_ret (v := .tuple #[.agg #[.slice none 0 0, .slice none 0 0, .slice none 0 0, .int .i64 0], .slice none 0 0, .int .i64 1]) (by simp [results, Tryz.results19, go_sem, g0, g1, g2, g3]) rfl ?_
    exact RedAns.no HE.out (by decide) (HBF.out _ _ _ _)
  · have HQ1 := hide q
    have HOK := hide (Gm.right_ok.1 q)
    have H2 := hide (fun x h => (show Calls _ _ _ _ (RowT _ _) from (H2.out x h).mono fun e w' k => k.1 q))
    have H3 := hide (H3.out q)
    have H4 := hide (H4.out q)
    rw [q] at H1
    clear q
    obtain ⟨T, hT⟩ : ∃ x, x = Gm.gn true G.rs G.ns.length := ⟨_, rfl⟩
    have HTl : Hid (T.length = G.ns.length) := hide (by rw [hT, Gm.gn_len])
    rw [← hT] at H2
    have hst := HOK.out.s0
    have hst1 := HOK.out.s1
    obtain ⟨m, hm⟩ : ∃ m : Nat, G.st = (m : Int) := ⟨G.st.toNat, by omega⟩
    obtain ⟨tb, htb⟩ : ∃ b, b = T.getD m false := ⟨_, rfl⟩
    have HTM : Hid (tb = Gm.tr (Gm.Gn true G.rs G.st)) := hide (by rw [htb, hT, Gm.gn_at _ _ _ _ (by omega), hm])
    have HTB := hide htb
    have HM := hide hm
    have hmn : m < G.ns.length := by omega
    have hmi : (m : Int) < (G.ns.length : Int) := by omega
    clear hT hst hst1 hm htb
    go_enter Tryz.func19, Tryz.ntmps19
    go_upto_region 1 with fail
    rw [← hw1]
    clear hw1
    go_upto_region 3 with fail
    refine (H1.out _ HB1.out).mono ?_; rintro _ w2 ⟨rfl, hb2⟩
    have HB2 := hide hb2
    clear hb2 c0 c1 c2 c3 H1
    go_upto_region 3 with fail
    go_cut [16] (fun v16 wx => v16 = .bool (!tb) ∧ Below w1.heap.size w1 wx)
    case first =>
      have q0 := fun y : Calm.On w2.heap.size w2 => (show y.1.cell? ⟨w.heap.size, 0, none⟩ = some (.slice AT G.ts.length cT) by rw [cell_of_row y.1 _ 0 _ _ _ (HQ.out y.1 (HB2.out.trans (y.2.mono HB2.out.size)))]; rfl)
      have q1 := fun y : Calm.On w2.heap.size w2 => (show y.1.cell? ⟨w.heap.size, 1, none⟩ = some (.slice AN G.ns.length cN) by rw [cell_of_row y.1 _ 1 _ _ _ (HQ.out y.1 (HB2.out.trans (y.2.mono HB2.out.size)))]; rfl)
      have q2 := fun y : Calm.On w2.heap.size w2 => (show y.1.cell? ⟨w.heap.size, 2, none⟩ = some (.slice AR G.rs.length cR) by rw [cell_of_row y.1 _ 2 _ _ _ (HQ.out y.1 (HB2.out.trans (y.2.mono HB2.out.size)))]; rfl)
      have q3 := fun y : Calm.On w2.heap.size w2 => (show y.1.cell? ⟨w.heap.size, 3, none⟩ = some (.int .i64 m) by rw [cell_of_row y.1 _ 3 _ _ _ (HQ.out y.1 (HB2.out.trans (y.2.mono HB2.out.size))), ← HM.out]; rfl)
      rw [HM.out] at H2
      have HD2 : Hid (Below w2.heap.size w2 w2.drew) := hide (below_drewN (Below.refl _ _) 1)
      refine CalmN.region_tree (fun x => ∃ y : Calm.On w2.heap.size w2, x = y.1) (.one [0, 2, 3] 1 (.fin [4, 5, 6])) (by kernel_rfl) (by kernel_rfl) (fun _ _ d _ _ h => by cases d <;> exact h) ⟨⟨w2.drew, HD2.out⟩, rfl⟩ ?_
      simp only [CalmN.wpT, CalmN.wpSt, CalmN.pickOps, List.getElem?_toArray, List.getElem?_cons_zero, List.getElem?_cons_succ]
      repeat (go_big_quiet_step (fail))
      refine wpQuiet_nil ?_
      clear q0 q1 q2 q3
      obtain ⟨wd, hwd⟩ : ∃ y, y = w2.drew := ⟨_, rfl⟩
      rw [← hwd] at HD2 ⊢
      clear hwd
      intro KK hKK
      rw [if_pos (by rfl)]
      go_wp2_with fail
      refine (H2.out wd (HBX.out _ (HB2.out.trans (HD2.out.mono HB2.out.size)))).mono ?_; rintro _ w3 ⟨ga, rfl, hga, hua, hb3⟩
      rw [HTl.out]
      have hb3' : Below w2.heap.size w2 w3 := HD2.out.trans (hb3.mono HD2.out.size)
      have HFI := hide (HB2.out.trans (hb3'.mono HB2.out.size))
      go_wp2_with fail
      refine hKK _ _ ⟨⟨w3, hb3'⟩, rfl⟩ (fun x => ∃ y : Calm.On w3.heap.size w3, x = y.1) (fun x h => by obtain ⟨y, rfl⟩ := h; exact ⟨⟨y.1, hb3'.trans (y.2.mono hb3'.size)⟩, rfl⟩) ⟨⟨w3, Below.refl _ _⟩, rfl⟩ ?_
      have bk := fun y : Calm.On w3.heap.size w3 => (y.2.cell (p := ⟨ga, m, none⟩) hua.lt).trans (hua.cell m (by rw [HTl.out]; exact hmn))
      rw [← HTB.out] at bk
      clear hb3 hga hua hb3' hKK
      repeat (go_big_quiet_step (fail))
      refine wpQuiet_nil ?_
      go_wp2_with fail
      go_meet
      case rel => exact ⟨rfl, HFI.out⟩
    case rest =>
      obtain ⟨rfl, hbc⟩ := hcut
      rw [HTM.out]
      cases hp : Gm.tr (Gm.Gn true G.rs G.st)
      · have HE := hide (Gm.rdE_empty HQ1.out hp)
        have g0 : wc.cell? ⟨w.heap.size + 1, 0, none⟩ = some (.slice none 0 0) := by rw [cell_of_row wc _ 0 _ _ _ (HZ.out wc hbc)]; rfl
        have g1 : wc.cell? ⟨w.heap.size + 1, 1, none⟩ = some (.slice none 0 0) := by rw [cell_of_row wc _ 1 _ _ _ (HZ.out wc hbc)]; rfl
        have g2 : wc.cell? ⟨w.heap.size + 1, 2, none⟩ = some (.slice none 0 0) := by rw [cell_of_row wc _ 2 _ _ _ (HZ.out wc hbc)]; rfl
        have g3 : wc.cell? ⟨w.heap.size + 1, 3, none⟩ = some (.int .i64 0) := by rw [cell_of_row wc _ 3 _ _ _ (HZ.out wc hbc)]; rfl
        have e0 := frozen_of_row wc _ 0 _ _ (HZ.out wc hbc)
        have e1 := frozen_of_row wc _ 1 _ _ (HZ.out wc hbc)
        have e2 := frozen_of_row wc _ 2 _ _ (HZ.out wc hbc)
        have e3 := frozen_of_row wc _ 3 _ _ (HZ.out wc hbc)
        have lz := (Array.getElem?_eq_some_iff.1 (HZ.out wc hbc)).1
        have HBF := hide (fun u1 u2 u3 u4 => ((((HBX.out wc hbc).setCell (p := ⟨w.heap.size + 1, 0, none⟩) (by simp only; omega) u1).setCell (p := ⟨w.heap.size + 1, 1, none⟩) (by simp only; omega) u2).setCell (p := ⟨w.heap.size + 1, 2, none⟩) (by simp only; omega) u3).setCell (p := ⟨w.heap.size + 1, 3, none⟩) (by simp only; omega) u4)
        clear hp HTM H2 H3 H4 hbc
        go_wp2
        refine bodyPost_ret (v := .tuple #[.agg #[.slice none 0 0, .slice none 0 0, .slice none 0 0, .int .i64 0], .slice none 0 0, .int .i64 9]) (by simp [results, Tryz.results19, go_sem, g0, g1, g2, g3]) rfl ?_
        exact RedAns.no HE.out (by decide) (HBF.out _ _ _ _)
      · have HE := hide (Gm.rdE_ok HQ1.out hp)
        have H4 := hide (H4.out (Gm.tr_iff.1 hp))
        have HBC := hide hbc
        have c0 : wc.cell? ⟨w.heap.size, 0, none⟩ = some (.slice AT G.ts.length cT) := by rw [cell_of_row wc _ 0 _ _ _ (HQ.out wc hbc)]; rfl
        have c1 : wc.cell? ⟨w.heap.size, 1, none⟩ = some (.slice AN G.ns.length cN) := by rw [cell_of_row wc _ 1 _ _ _ (HQ.out wc hbc)]; rfl
        have c2 : wc.cell? ⟨w.heap.size, 2, none⟩ = some (.slice AR G.rs.length cR) := by rw [cell_of_row wc _ 2 _ _ _ (HQ.out wc hbc)]; rfl
        have c3 : wc.cell? ⟨w.heap.size, 3, none⟩ = some (.int .i64 G.st) := by rw [cell_of_row wc _ 3 _ _ _ (HQ.out wc hbc)]; rfl
        have lc0 := block_lt_of_cell c0
        obtain ⟨ks, hks⟩ : ∃ ks, ks = Gm.kl G G.rs.length := ⟨_, rfl⟩
        rw [← hks] at H3 H4
        have HKS := hide hks
        clear hp HTM H2 hbc hks
        go_wp2_with fail
        refine (H3.out _ (HBX.out _ HBC.out)).mono ?_; rintro _ w4 ⟨u, rfl, ho4, hb4⟩
        have HB4 := hide (HBC.out.trans (hb4.mono HBC.out.size))
        obtain ⟨A4, c4, rfl, _, _, hr4⟩ := ho4.form
        have HR4 := hide hr4
        have HO4 := hide ho4
        have HL4 := hide (Nat.le_trans HBC.out.size (Nat.le_refl wc.heap.size))
        clear c0 c1 c2 c3 lc0 hb4 hr4 ho4
        have c0 : w4.cell? ⟨w.heap.size, 0, none⟩ = some (.slice AT G.ts.length cT) := by rw [cell_of_row w4 _ 0 _ _ _ (HQ.out w4 HB4.out)]; rfl
        have c1 : w4.cell? ⟨w.heap.size, 1, none⟩ = some (.slice AN G.ns.length cN) := by rw [cell_of_row w4 _ 1 _ _ _ (HQ.out w4 HB4.out)]; rfl
        have c2 : w4.cell? ⟨w.heap.size, 2, none⟩ = some (.slice AR G.rs.length cR) := by rw [cell_of_row w4 _ 2 _ _ _ (HQ.out w4 HB4.out)]; rfl
        have c3 : w4.cell? ⟨w.heap.size, 3, none⟩ = some (.int .i64 G.st) := by rw [cell_of_row w4 _ 3 _ _ _ (HQ.out w4 HB4.out)]; rfl
        have lc0 := block_lt_of_cell c0
        go_wp2_with fail
        refine (H4.out w4 (HBX.out _ HB4.out) A4 c4 HR4.out).mono ?_; rintro _ w5 ⟨g, rfl, hg5, hb5⟩
        have HB5 := hide (HB4.out.trans (hb5.mono HB4.out.size))
        have HO5 := hide (HO4.out.below hb5 (Nat.le_refl _))
        have HG5 := hide hg5
        obtain ⟨u0, u1, u2, rfl, ht5, hn5, hr5⟩ := hg5
        obtain ⟨A0, d0, rfl, _, _⟩ := own_form ht5
        obtain ⟨A1, d1, rfl, _, _⟩ := own_form hn5
        obtain ⟨A2, d2, rfl, _, _⟩ := ownrl_form hr5
        have HL5 := hide (HB4.out.size)
        clear ht5 hn5 hr5
        clear c0 c1 c2 c3 lc0 hb5 HR4 HO4
        have g0 : w5.cell? ⟨w.heap.size + 1, 0, none⟩ = some (.slice none 0 0) := by rw [cell_of_row w5 _ 0 _ _ _ (HZ.out w5 HB5.out)]; rfl
        have g1 : w5.cell? ⟨w.heap.size + 1, 1, none⟩ = some (.slice none 0 0) := by rw [cell_of_row w5 _ 1 _ _ _ (HZ.out w5 HB5.out)]; rfl
        have g2 : w5.cell? ⟨w.heap.size + 1, 2, none⟩ = some (.slice none 0 0) := by rw [cell_of_row w5 _ 2 _ _ _ (HZ.out w5 HB5.out)]; rfl
        have g3 : w5.cell? ⟨w.heap.size + 1, 3, none⟩ = some (.int .i64 0) := by rw [cell_of_row w5 _ 3 _ _ _ (HZ.out w5 HB5.out)]; rfl
        have e0 := frozen_of_row w5 _ 0 _ _ (HZ.out w5 HB5.out)
        have e1 := frozen_of_row w5 _ 1 _ _ (HZ.out w5 HB5.out)
        have e2 := frozen_of_row w5 _ 2 _ _ (HZ.out w5 HB5.out)
        have e3 := frozen_of_row w5 _ 3 _ _ (HZ.out w5 HB5.out)
        have lz := (Array.getElem?_eq_some_iff.1 (HZ.out w5 HB5.out)).1
        have HBF := hide (fun u1 u2 u3 u4 => ((((HBX.out w5 HB5.out).setCell (p := ⟨w.heap.size + 1, 0, none⟩) (by simp only; omega) u1).setCell (p := ⟨w.heap.size + 1, 1, none⟩) (by simp only; omega) u2).setCell (p := ⟨w.heap.size + 1, 2, none⟩) (by simp only; omega) u3).setCell (p := ⟨w.heap.size + 1, 3, none⟩) (by simp only; omega) u4)
        have hgf := only_set (only_set (only_set (only_set (World.grownBy.refl w5 (some (w.heap.size + 1))) 0 (.slice A0 (Gm.reduce G).ts.length d0)) 1 (.slice A1 (Gm.reduce G).ns.length d1)) 2 (.slice A2 (Gm.reduce G).rs.length d2)) 3 (.int .i64 (Gm.reduce G).st)
        have HGR := hide (HG5.out.grown hgf (fun g e => by injection e with e; have := HS1.out; have := HL5.out; omega))
        have HRF := hide (HO5.out.far hgf (by have := HS1.out; have := HL4.out; omega))
        generalize hRG : Gm.reduce G = RG at *
        have HRG := hide hRG
        clear hgf HG5 HO5 hRG
        go_wp2
        refine bodyPost_ret (v := .tuple #[.agg #[.slice A0 RG.ts.length d0, .slice A1 RG.ns.length d1, .slice A2 RG.rs.length d2, .int .i64 RG.st], .slice A4 ks.length c4, .int .i64 0]) (by simp [results, Tryz.results19, go_sem, g0, g1, g2, g3]) rfl ?_
        exact RedAns.ok HE.out HKS.out (by rw [HRG.out]; exact HGR.out.rd) HRF.out.rdOf (HBF.out _ _ _ _)
/-- What is reduced fits. -/
theorem Gm.rdG_fit {G : Gm.Gr} (hf : Gm.Fit G) : Gm.Fit (Gm.rdG G) := by
  unfold Gm.rdG
  split
  case isFalse => exact ⟨by simp [Gm.gr0], by simp [Gm.gr0], by simp [Gm.gr0], by unfold Gm.In; simp [Gm.gr0]⟩
  case isTrue h =>
    have hr : Gm.right G = true := by
      cases q : Gm.right G
      · rw [Gm.rdE_no q] at h; cases h
      · rfl
    have hp : Gm.Gn true G.rs G.st := by
      cases q : Gm.tr (Gm.Gn true G.rs G.st)
      · rw [Gm.rdE_empty hr q] at h; cases h
      · exact Gm.tr_iff.1 q
    have hok := Gm.right_ok.1 hr
    have hle := Gm.olds_le hok
    have h40 := (Gm.nons_iff G).1 hok.n
    have hps : ∀ {l : Int}, l ∈ Gm.olds G → Gm.In (Gm.pos (Gm.olds G) l) := fun hl => by have := Gm.pos_lt hl; unfold Gm.In; omega
    refine ⟨hf.t, fun s hs => ?_, fun y hy => ?_, hps (Gm.st_in hp)⟩
    · obtain ⟨l, hl, rfl⟩ := List.mem_map.1 hs
      have := Gm.olds_lt hok hl
      rw [List.getD_eq_getElem?_getD, List.getElem?_eq_getElem (by omega), Option.getD_some]
      exact hf.n _ (List.getElem_mem _)
    · obtain ⟨x, hx, rfl⟩ := List.mem_map.1 hy
      have hfx := hf.r x (Gm.mem_krs.1 hx).1
      refine ⟨hps (Gm.use_left hx), hfx.2.1, fun z hz => ?_⟩
      obtain ⟨u, hu, rfl⟩ := List.mem_map.1 hz
      unfold Gm.re1
      by_cases h0 : u < 0
      · rw [if_pos h0]
        have := Gm.pos_lt (Gm.use_sym hx hu h0)
        unfold Gm.In; omega
      · rw [if_neg h0]; exact hfx.2.2 u hu
/-- Is a grammar reduced? -/
noncomputable def Gm.isB (G : Gm.Gr) : Bool := decide (Gm.rdE G = 0) && Gm.same G (Gm.rdG G)
theorem Gm.rdE_in (G : Gm.Gr) : Gm.rdE G = 0 ∨ Gm.rdE G = 1 ∨ Gm.rdE G = 9 := by
  unfold Gm.rdE
  split
  · split
    · exact .inl rfl
    · exact .inr (.inr rfl)
  · exact .inr (.inl rfl)
set_option maxHeartbeats 4000000 in
theorem tIs_any (v : Value) (G : Gm.Gr) (B : Nat) (w : World) (hg : RdGr w B v G) (hf : Gm.Fit G) (hB : B ≤ w.heap.size) :
    Calls Tryz.prog 16 #[v] w fun e w' => e = .returned (.bool (Gm.isB G)) ∧ Below w.heap.size w w' := by
  have H1 := hide (fun (x : World) (h : Below w.heap.size w x) => tReduce_any v G B x (hg.below h hB) hf (Nat.le_trans hB h.size))
  have H2 := hide (fun (x : World) (h : Below w.heap.size w x) (u : Value) (B' : Nat) (hu : RdGr x B' u (Gm.rdG G)) (hB' : B' ≤ x.heap.size) => gsame_any v u G (Gm.rdG G) B B' x (hg.below h hB) hu hf (Gm.rdG_fit hf) (Nat.le_trans hB h.size) hB')
  have hin := Gm.rdE_in G
  have HI : Hid (Gm.isB G = (decide (Gm.rdE G = 0) && Gm.same G (Gm.rdG G))) := hide rfl
  obtain ⟨AT, cT, AN, cN, AR, cR, rfl, _⟩ := hg
  have HS0 := hide (One.start w #[.slice AT G.ts.length cT, .slice AN G.ns.length cN, .slice AR G.rs.length cR, .int .i64 G.st])
  unfold RedAns at H1
  generalize Gm.rdL G = L at *
  generalize Gm.rdE G = er at *
  generalize Gm.rdG G = RG at *
  clear hf
  by_cases he : er = 0
  · have HX : Hid (Gm.isB G = Gm.same G RG) := hide (by rw [HI.out, decide_eq_true he]; rfl)
    subst he
    clear hin HI
    go_enter Tryz.func16, Tryz.ntmps16
    go_wp2_with fail
    refine (H1.out _ HS0.out.below).mono ?_; rintro _ w2 ⟨g, A, c, rfl, hg2, hr2, hb2⟩
    have HB2 := hide (HS0.out.on hb2)
    have HG2 := hide hg2
    obtain ⟨A0, d0, A1, d1, A2, d2, rfl, _⟩ := hg2
    have HT0 := hide (One.start w2 #[.slice A0 RG.ts.length d0, .slice A1 RG.ns.length d1, .slice A2 RG.rs.length d2, .int .i64 RG.st])
    have HB3 := hide (HB2.out.on HT0.out.below)
    have x0 := HB3.out.c 0 _ rfl
    have x1 := HB3.out.c 1 _ rfl
    have x2 := HB3.out.c 2 _ rfl
    have x3 := HB3.out.c 3 _ rfl
    have hz2 : w.heap.size < w2.heap.size := HB2.out.size
    clear hr2 hb2
    go_wp2_with fail
    refine (H2.out _ HB3.out.below _ w2.heap.size (HG2.out.below HT0.out.below (Nat.le_refl _)) HT0.out.below.size).mono ?_; rintro _ w4 ⟨rfl, hb4⟩
    have HB4 := hide (HB3.out.on hb4)
    clear hb4 x0 x1 x2 x3
    go_wp2
    go_ret
    exact ⟨by rw [HX.out]; rfl, HB4.out.below⟩
  · have HX : Hid (Gm.isB G = false) := hide (by rw [HI.out, decide_eq_false he]; rfl)
    have he2 : (er == 0) = false := by simpa using he
    clear HI H2
    go_enter Tryz.func16, Tryz.ntmps16
    go_wp2_with fail
    refine (H1.out _ HS0.out.below).mono ?_; rintro _ w2 ⟨g, A, c, rfl, hg2, hr2, hb2⟩
    have HB2 := hide (HS0.out.on hb2)
    obtain ⟨A0, d0, A1, d1, A2, d2, rfl, _⟩ := hg2
    clear hr2 hb2
    go_wp2
    go_ret
    exact ⟨by rw [HX.out]; rfl, (HB2.out.alloc _).below⟩
end Go.Proofs.YtfiijndmlmddbaaGreat

namespace Go.Proofs.YtfiijndmlmddbaaGreat
set_option maxRecDepth 100000
open Go.RowKit

/-- What a text's grammar is, if the text is a source. -/
def rd (L : List Int) : Option (Gm.R Gm.Gr) := match toks L with
  | .bad _ _ => none
  | .ok xs => match Y.source xs with
    | .ok s _ => some (Gm.build s.1 s.2)
    | .bad _ => none
end Go.Proofs.YtfiijndmlmddbaaGreat

namespace Go.Proofs.YtfiijndmlmddbaaGreat
set_option maxRecDepth 100000
open Go.RowKit

/-- Groups, one behind the other, to the end. -/
def Y.more : Nat → List Prd → List Tok → Res (List Prd)
  | 0, acc, ts => .ok acc ts
  | _ + 1, acc, [] => .ok acc []
  | f + 1, acc, t :: ts => (group [] (t :: ts)).bind fun ps r => Y.more f (acc ++ ps) r
theorem Y.group_kind {t : Tok} {ts r : List Tok} {ps : List Y.Prd} (h : Y.group [] (t :: ts) = .ok ps r) : t.k = 1 := by
  unfold Y.group at h
  obtain ⟨left, m, h1, h⟩ := Y.bind_eq_ok h
  obtain ⟨e, hk⟩ := Y.take_ok h1
  injection e with e _
  subst e
  simpa using hk
/-- append of a list of rules of the call's own to a slice of the call's own, met as one operation. -/
theorem apP_wp {w : World} {o : Oper} {a : Act} {K : Act → World → Prop} {Q : Exit → Act → World → Prop}
    (s x : Operand) (t : TypeId) (ho : o.op = .call { callee := .builtin .append, args := #[s, x], argTypes := #[t, t] }) (ht : Tryz.prog.underlying t = some (.slice 93))
    (L : List Int) (base bu : Nat) (v u : Value) (xs ys : List Y.Prd) (hs : a.eval s = v) (hown : OwnP L w base v xs) (hx : a.eval x = u) (hsrc : OwnP L w bu u ys) (hbu : base ≤ bu)
    (hlen : xs.length + ys.length ≤ 1000000) (hbase : base ≤ w.heap.size)
    (hK : ∀ v' w', OwnP L w' base v' (xs ++ ys) → w.grownBy w' v.ownBlock → K (a.put o.dst v') w') :
    o.wp Tryz.prog a w K Q := by
  obtain ⟨i, hi, hz0, hz1, hz2⟩ := info_parts infoP
  have hown0 := hown
  obtain ⟨qs, hq1, hq2, hq3⟩ := hown
  obtain ⟨qy, hy1, hy2, hy3⟩ := hsrc
  have hlq : qs.length = xs.length := by rw [← hq1, List.length_map]
  have hly : qy.length = ys.length := by rw [← hy1, List.length_map]
  have hpl : (pall L qy).length = ys.length * 5 := hy2.1
  rcases hy2.2 with ⟨rfl, h0⟩ | ⟨g, cap, cur, rfl, hb, hg, hn, hm, hc, htk⟩
  · have hz : ys = [] := List.eq_nil_of_length_eq_zero h0
    subst hz
    have hrun := run_append_nil (P := Tryz.prog) w base t o.type 93 i 5 ht hi v xs.length _ hq2 0
    unfold Oper.wp
    simp [execOp, ho, resolve, invoke, builtin, hs, hx, hrun, Result.andThen]
    exact hK v w (by simpa using hown0) (World.grownBy.refl _ _)
  · refine wp_append_own w s x t ho base 93 i _ 5 88 ht hi hz0 hz1 hz2 rfl (by decide) v xs.length (pall L qs) hs hq2 ⟨g, 0, none⟩ ys.length cap (pall L qy) hx hpl ?_ ?_ (by unfold maxLen; omega) (by omega) hbase fun v' w' h1 h2 _ => hK v' w' ?_ h2
    · intro j z hj
      have hjl : j < ys.length * 5 := by have := (List.getElem?_eq_some_iff.1 hj).1; omega
      rw [addZ, Nat.zero_add, cell_of_row w g _ _ _ _ hg]
      rw [← htk, List.getElem?_take_of_lt hjl] at hj
      simpa using hj
    · intro z hz
      obtain ⟨q, _, hz⟩ := List.mem_flatMap.1 hz
      exact pcells_one L q.1 q.2.1 q.2.2 z hz
    · have hoo := own_other hq2 (by decide)
      refine ⟨qs ++ qy, by rw [List.map_append, hq1, hy1], ?_, fun q hq => ?_⟩
      · rw [List.length_append]
        unfold pall at h1 ⊢
        rw [List.flatMap_append]
        exact h1
      · rcases List.mem_append.1 hq with h | h
        · exact (hq3 q h).grown h2 hoo
        · exact ((hy3 q h).less hbu).grown h2 hoo
theorem Rd8.dlen {L : List Int} {B R px py : Nat} {w : World} {ts : List Tok} (h : Rd8 L B R px py w ts) : declLen R w = ts.length := by
  obtain ⟨A, c, h0, _⟩ := h.cell0
  unfold declLen
  rw [h0]
theorem own_apart {w : World} {base base' : Nat} {v v' : Value} {n n' size size' : Nat} {e e' : TypeId} {xs xs' : List Value} (h : w.ownsRow base e size v n xs) (h' : w.ownsRow base' e' size' v' n' xs') (he : e ≠ e') : v.ownBlock = none ∨ v.ownBlock ≠ v'.ownBlock := by
  rcases h'.2 with ⟨rfl, _⟩ | ⟨g, cap, cur, rfl, _, hg, _⟩
  · rcases hv : v.ownBlock with _ | k
    · exact .inl rfl
    · exact .inr (by simp [Value.ownBlock])
  · exact .inr (own_ne h hg he)
set_option maxHeartbeats 8000000 in
theorem of8m (L : List Int) (A : Option Addr) (c px py : Nat) (ts : List Tok) (ds : List Y.Dcl) (p1 ps : List Y.Prd) (f1 : Nat) (m m2 r1 : List Tok) (t9 : Tok) (w : World) (hr : RdT L w w.heap.size A ts) (hc : ts.length ≤ c) (h4 : ts.length ≤ 4000)
    (hd : Y.decls (ts.length + 1) [] ts = .ok ds m) (hk : ∀ d ∈ ds, d.k = 4 ∨ d.k = 5) (h9 : Y.take [9] m = .ok t9 m2) (hg : Y.group [] m2 = .ok p1 r1) (hmo : Y.more f1 p1 r1 = .ok ps []) :
    Calls Tryz.prog 64 #[.slice A ts.length c, .complex .f64 px py] w fun e w' => ∃ dv pv, e = .returned (.tuple #[.agg #[dv, pv], .complex .f64 0 0, .int .i64 0]) ∧ OwnD L w' w.heap.size dv ds ∧ OwnP L w' w.heap.size pv ps ∧ Below w.heap.size w w' := by
  have SC := fun a w m X Y => show (store a (.complex .f64 X Y) m).run Tryz.prog w = stored Tryz.prog w a (.complex .f64 X Y) m from run_store _ w a _ m rfl
  have BR := fun A (n c : Nat) X Y w => (run_build w 108 _ _ (by kernel_rfl) : (Instr.build 108 #[(0, .slice A n c), (1, .complex .f64 X Y)]).run Tryz.prog w = .ok (.agg #[.slice A n c, .complex .f64 X Y, .complex .f64 0 0, .int .i64 0]) w)
  have BS := fun A (n c : Nat) w => (run_build w 66 _ _ (by kernel_rfl) : (Instr.build 66 #[(0, .slice A n c)]).run Tryz.prog w = .ok (.agg #[.slice A n c, .slice none 0 0]) w)
  have HB0 := hide (((Below.refl w.heap.size w).alloc (Nat.le_refl _) (.cells #[.slice none 0 0, .slice none 0 0] 66)).alloc (by simp) (.cells #[.slice A ts.length c, .complex .f64 px py, .complex .f64 0 0, .int .i64 0] 108))
  have HR1 : Hid (Rd8 L w.heap.size (w.heap.size + 1) px py ((w.alloc (.cells #[.slice none 0 0, .slice none 0 0] 66)).alloc (.cells #[.slice A ts.length c, .complex .f64 px py, .complex .f64 0 0, .int .i64 0] 108)) ts) := hide ⟨A, c, by have := heap_alloc_new (w.alloc (.cells #[.slice none 0 0, .slice none 0 0] 66)) (.cells #[.slice A ts.length c, .complex .f64 px py, .complex .f64 0 0, .int .i64 0] 108); rwa [show (w.alloc (.cells #[.slice none 0 0, .slice none 0 0] 66)).heap.size = w.heap.size + 1 by simp] at this, hc, h4, hr.below HB0.out (Nat.le_refl _), by omega⟩
  have HD := hide (fun (x : World) (B R : Nat) (h : Rd8 L B R px py x ts) => decls8 L B R px py (ts.length + 1) ts ds m x h hd (by omega) hk)
  have H9 := hide (fun (x : World) (B R : Nat) (h : Rd8 L B R px py x m) => take8' L B R px py m 9 9 x h t9 m2 ((take_two 9 m).trans h9))
  have HG := hide (fun (x : World) (B R : Nat) (h : Rd8 L B R px py x m2) => group8 L B R px py m2 p1 r1 x h hg)
  have HMO := hide hmo
  have HGL := hide (Y.group_len hg)
  unfold refV at H9
  clear hr hc h4 hd hk h9 hg hmo
  go_enter Tryz.func64, Tryz.ntmps64
  go_wp2_with fail
  refine (HD.out _ _ _ HR1.out).mono ?_; rintro _ w2 ⟨hg2, v2, rfl, ho2, hr2⟩
  have hz0 := block_at hg2 ((Below.block (B := w.heap.size + 1) ((Below.refl _ (w.alloc (.cells #[.slice none 0 0, .slice none 0 0] 66))).alloc (by simp) (.cells #[.slice A ts.length c, .complex .f64 px py, .complex .f64 0 0, .int .i64 0] 108)) w.heap.size (by omega)).trans (heap_alloc_new w _)) (by omega)
  obtain ⟨A2, c2, rfl, _, _⟩ := ho2.form
  have HG2 := hide hg2
  have hs2 : w.heap.size + 2 ≤ w2.heap.size := by have := hg2.size; simpa using this
  have HO2 := hide ho2
  have HRO := hide hr2.other
  have HR2 := hide (hr2.alloc (.cells #[.slice A2 ds.length c2, .slice none 0 0] 66))
  have HZ2 := hide ((Below.heap_alloc w2 (.cells #[.slice A2 ds.length c2, .slice none 0 0] 66) w.heap.size (by omega)).trans hz0)
  clear hg2 ho2 hr2 hz0
  go_wp2_with fail
  refine (H9.out _ _ _ HR2.out).mono ?_; rintro _ w3 ⟨rfl, hg3, hr3⟩
  have HG3 := hide hg3
  have HR3 := hide hr3
  have HZ3 := hide (block_at hg3 HZ2.out (by omega))
  have HB3 := hide (block_kept hg3 (by omega : w.heap.size + 1 < w2.heap.size))
  clear hg3 hr3
  go_wp2_with fail
  have HL1 : Hid (p1.length + r1.length ≤ 4000) := hide (by have h1 := HGL.out; have h2 := HR3.out.len; simp at h1; omega)
  refine (HG.out _ _ _ HR3.out).mono ?_; rintro _ w4 ⟨hg4, v4, rfl, ho4, hr4⟩
  obtain ⟨A4, c4, rfl, _, _⟩ := ho4.form
  have hs3 : w2.heap.size + 1 ≤ w3.heap.size := by have := HG3.out.size; simpa using this
  have hs4 : w3.heap.size ≤ w4.heap.size := hg4.size
  have hb4 := block_at hg4 HB3.out (by omega)
  have hz4 := block_at hg4 HZ3.out (by omega)
  have HGA := hide ((only_alloc HG2.out (.cells #[.slice A2 ds.length c2, .slice none 0 0] 66)).trans (HG3.out.trans hg4))
  have b0 := cell_of_row w4 _ 0 _ _ _ hb4
  have b1 := cell_of_row w4 _ 1 _ _ _ hb4
  have fb1 := frozen_of_row w4 _ 1 _ _ hb4
  have z0 := cell_of_row w4 _ 0 _ _ _ hz4
  have z1 := cell_of_row w4 _ 1 _ _ _ hz4
  have fz0 := frozen_of_row w4 _ 0 _ _ hz4
  have fz1 := frozen_of_row w4 _ 1 _ _ hz4
  have hRl := hr4.lt
  have HO4 := hide ho4
  have HOD4 := hide (HO2.out.grown ((only_alloc (World.grownBy.refl w2 (some (w.heap.size + 1))) (.cells #[.slice A2 ds.length c2, .slice none 0 0] 66)).trans (HG3.out.trans hg4)) ⟨HRO.out, by obtain ⟨z, hz⟩ := HO2.out.own; simp at hz; exact own_off hz (by omega)⟩)
  have HW5 : ∃ w5 : World, w5 = w4.setCell ⟨w2.heap.size, 1, none⟩ (.slice A4 p1.length c4) := ⟨_, rfl⟩
  obtain ⟨w5, hw5⟩ := HW5
  have hb5 : w5.heap[w2.heap.size]? = some (.cells #[.slice A2 ds.length c2, .slice A4 p1.length c4] 66 (0, 0)) := by rw [hw5, heap_setCell_same w4 _ 1 _ _ _ hb4]; rfl
  have hz5 : w5.heap[w.heap.size]? = some (.cells #[.slice none 0 0, .slice none 0 0] 66 (0, 0)) := by rw [hw5, Below.heap_setCell _ _ _ _ (by simp only; omega)]; exact hz4
  have HR5 : Hid (Rd8 L w.heap.size (w.heap.size + 1) px py w5 r1) := hide (by rw [hw5]; exact hr4.far _ _ _ (by omega))
  have HOD5 : Hid (OwnD L w5 (w.heap.size + 2) (.slice A2 ds.length c2) ds) := hide (by rw [hw5]; have h := HOD4.out.grown (only_set (World.grownBy.refl w4 (some w2.heap.size)) 1 (.slice A4 p1.length c4)) ⟨src_other hb4, by obtain ⟨z, hz⟩ := HOD4.out.own; exact own_away hz hb4 (fun cur e => by injection e with _ e; exact absurd e (by decide))⟩; simpa using h)
  have HOP5 : Hid (OwnP L w5 w3.heap.size (.slice A4 p1.length c4) p1) := hide (by rw [hw5]; exact ho4.grown (only_set (World.grownBy.refl w4 (some w2.heap.size)) 1 (.slice A4 p1.length c4)) ⟨src_other hb4, by obtain ⟨z, hz⟩ := ho4.own; exact own_away hz hb4 (fun cur e => by injection e with _ e; exact absurd e (by decide))⟩)
  have HBW : Hid (Below w.heap.size w w5) := hide (by
    rw [hw5]
    refine Below.setCell ?_ (p := ⟨w2.heap.size, 1, none⟩) (by simp only; omega) _
    exact HB0.out.grown HGA.out (by simp; omega) (fun k e => by injection e with e; omega))
  clear hg4 ho4 hr4
  go_wp2_with fail
  rw [← hw5]
  have HB5 := hide hb5
  have HZ5 := hide hz5
  have hpb5 : w3.heap.size ≤ w5.heap.size := by rw [hw5]; simp; omega
  clear hw5 hb5 hz5 b0 b1 fb1 z0 z1 fz0 fz1 hb4 hz4 HO4 HOD4
  go_loopw [] (fun wt => ∃ (f : Nat) (acc : List Y.Prd) (rest : List Tok) (A : Option Addr) (c : Nat), Hid (Y.more f acc rest = .ok ps []) ∧ acc.length + rest.length ≤ 4000 ∧ wt.heap[w2.heap.size]? = some (.cells #[.slice A2 ds.length c2, .slice A acc.length c] 66 (0, 0)) ∧ wt.heap[w.heap.size]? = some (.cells #[.slice none 0 0, .slice none 0 0] 66 (0, 0)) ∧ Rd8 L w.heap.size (w.heap.size + 1) px py wt rest ∧ OwnD L wt (w.heap.size + 2) (.slice A2 ds.length c2) ds ∧ OwnP L wt w3.heap.size (.slice A acc.length c) acc ∧ Below w.heap.size w wt ∧ w3.heap.size ≤ wt.heap.size) (fun wt => declLen (w.heap.size + 1) wt)
  case atStart => exact ⟨f1, p1, r1, A4, c4, HMO, HL1.out, HB5.out, HZ5.out, HR5.out, HOD5.out, HOP5.out, HBW.out, hpb5⟩
  case round =>
    clear HMO HL1 HB5 HZ5 HR5 HOD5 HOP5 HBW hpb5
    obtain ⟨f, acc, rest, A, c, HM, hle, hsb, hzz, hrd, hod, hop, hbw, hpb⟩ := hrel
    obtain ⟨Ax, cx, r0, r3, _⟩ := hrd.cell0
    have HSB := hide hsb
    have HZZ := hide hzz
    have HRD := hide hrd
    have HOD := hide hod
    have HOP := hide hop
    have HBW := hide hbw
    have HPB := hide hpb
    have HLE := hide hle
    have hsz : w.heap.size < wr.heap.size := (Array.getElem?_eq_some_iff.1 hzz).1
    have hsbl : w2.heap.size < wr.heap.size := (Array.getElem?_eq_some_iff.1 hsb).1
    rcases rest with _ | ⟨t, m1⟩
    · have HFIN : Hid (acc = ps) := hide (by
        have h := HM.out
        cases f with
        | zero => injection h
        | succ f => injection h)
      have p0 := cell_of_row wr _ 0 _ _ _ hsb
      have p1' := cell_of_row wr _ 1 _ _ _ hsb
      have y0 := cell_of_row wr _ 0 _ _ _ hzz
      have y1 := cell_of_row wr _ 1 _ _ _ hzz
      have gz0 := frozen_of_row wr _ 0 _ _ hzz
      have gz1 := frozen_of_row wr _ 1 _ _ hzz
      clear hsb hzz hrd hod hop hbw hpb hle HM
      go_wp2
      have hgf := only_set (only_set (World.grownBy.refl wr (some w.heap.size)) 0 (.slice A2 ds.length c2)) 1 (.slice A acc.length c)
      refine bodyPost_ret (v := .tuple #[.agg #[.slice A2 ds.length c2, .slice A acc.length c], .complex .f64 0 0, .int .i64 0]) (by simp [results, Tryz.results64, go_sem, y0, y1]) rfl ⟨_, _, rfl, ?_, ?_, ?_⟩
      · exact (HOD.out.grown hgf ⟨src_other HZZ.out, by obtain ⟨z, hz⟩ := HOD.out.own; exact own_off hz (by omega)⟩).less5 (by omega)
      · rw [← HFIN.out]
        exact (HOP.out.grown hgf ⟨src_other HZZ.out, by obtain ⟨z, hz⟩ := HOP.out.own; exact own_off hz (by omega)⟩).less5 (by omega)
      · exact HBW.out.grown hgf HBW.out.size (fun k e => by injection e with e; omega)
    · obtain ⟨f, rfl⟩ : ∃ f', f = f' + 1 := by
        cases f with
        | zero => have h := HM.out; injection h with _ h; cases h
        | succ f => exact ⟨f, rfl⟩
      have hY := HM.out
      rw [Y.more] at hY
      obtain ⟨p2, r2, hgp, hmo2⟩ := Y.bind_eq_ok hY
      have HMO2 := hide hmo2
      have HGL2 := hide (Y.group_len hgp)
      have HKD := hide (fun (x : World) (h : Rd8 L w.heap.size (w.heap.size + 1) px py x (t :: m1)) => kind8 L w.heap.size (w.heap.size + 1) px py (t :: m1) x h)
      have HGR := hide (fun (x : World) (h : Rd8 L w.heap.size (w.heap.size + 1) px py x (t :: m1)) => group8 L w.heap.size (w.heap.size + 1) px py (t :: m1) p2 r2 x h hgp)
      rw [show kd (t :: m1) = 1 from Y.group_kind hgp] at HKD
      have hlen : 0 < ((t :: m1).length : Int) := by simp
      have HLN : Hid ((t :: m1).length = m1.length + 1) := hide rfl
      clear hY hgp hmo2 HM hsb hzz hrd hod hop hbw hpb hle
      have HRL : Hid ((t :: m1).length = declLen (w.heap.size + 1) wr) := hide HRD.out.dlen.symm
      generalize hrr : t :: m1 = rst at *
      clear hrr
      go_wp2_with fail
      refine (HKD.out _ HRD.out).mono ?_; rintro _ _ ⟨rfl, rfl⟩
      go_upto_region 6 with fail
      refine Calm.region_tree (fun _ => True) (.two [0, 2] 1 (.one [] 3 (.one [] 4 (.one [5] 6 (.fin [])))) 3 (.one [] 1 (.one [] 4 (.one [5] 6 (.fin []))))) (by kernel_rfl) (by kernel_rfl) (fun _ _ d _ _ h => by cases d <;> exact h) trivial ?_
      obtain ⟨x2, hx2⟩ : ∃ x, x = wr.drew := ⟨_, rfl⟩
      rw [← hx2]
      have hgd : wr.grownBy x2 .none := by rw [hx2]; exact drew_grown _ _
      have hbx : Below w.heap.size w x2 := by rw [hx2]; exact below_drewN HBW.out 1
      have HSB2 := hide ((hgd.block w2.heap.size hsbl (by simp)).trans HSB.out)
      have HZZ2 := hide ((hgd.block w.heap.size hsz (by simp)).trans HZZ.out)
      have HRD2 := hide (HRD.out.row hgd)
      have HOD2 := hide (HOD.out.grown hgd (Away.none _ _))
      have HOP2 := hide (HOP.out.grown hgd (Away.none _ _))
      have HBW2 := hide hbx
      have HPB2 : Hid (w3.heap.size ≤ x2.heap.size) := hide (Nat.le_trans HPB.out hgd.size)
      clear hx2 hgd hbx HSB HZZ HRD HOD HOP HBW HPB
      simp only [Calm.wpT, Calm.wpSt, Calm.pickOps, List.getElem?_toArray, List.getElem?_cons_zero, List.getElem?_cons_succ]
      repeat (go_big_quiet_step (fail))
      refine wpQuiet_nil ?_
      refine ⟨?_, ?_⟩
      · intro KK hKK
        try rw [if_pos (by rfl)]
        have c1 := cell_of_row x2 _ 1 _ _ _ HSB2.out
        go_wp2_with fail
        clear c1
        refine hKK _ _ trivial (fun _ => True) (fun _ _ => trivial) trivial ?_
        repeat (go_big_quiet_step (fail))
        refine wpQuiet_nil ?_
        intro KK hKK
        try rw [if_pos (by rfl)]
        go_wp2_with fail
        refine (HGR.out _ HRD2.out).mono ?_; rintro _ x3 ⟨hg3, v3, rfl, ho3, hr3⟩
        have HSB3 := hide (block_at hg3 HSB2.out (by omega))
        have HZZ3 := hide (block_at hg3 HZZ2.out (by omega))
        have HRD3 := hide hr3
        have HOD3 := hide (HOD2.out.grown hg3 ⟨HRD2.out.other, by obtain ⟨z, hz⟩ := HOD2.out.own; exact own_off hz (by omega)⟩)
        have HOP3 := hide (HOP2.out.grown hg3 ⟨HRD2.out.other, by obtain ⟨z, hz⟩ := HOP2.out.own; exact own_off hz (by omega)⟩)
        have HBW3 := hide (HBW2.out.grown hg3 HBW2.out.size (fun k e => by injection e with e; omega))
        have HPB3 := hide (Nat.le_trans HPB2.out hg3.size)
        have HO3 := hide (ho3.less5 HPB2.out)
        have hs23 : x2.heap.size ≤ x3.heap.size := hg3.size
        clear hg3 ho3 hr3
        go_wp2_with fail
        refine hKK _ _ trivial (fun _ => True) (fun _ _ => trivial) trivial ?_
        repeat (go_big_quiet_step (fail))
        refine wpQuiet_nil ?_
        intro KK hKK
        try rw [if_pos (by rfl)]
        refine apP_wp (.tmp 40) (.tmp 42) _ rfl Tryz.underlying64 L w3.heap.size w3.heap.size _ v3 acc p2 rfl HOP3.out rfl HO3.out (Nat.le_refl _) (by have h1 := HLE.out; have h2 := HGL2.out; simp at h2; omega) HPB3.out ?_
        intro v4 x4 ho4 hg4
        obtain ⟨zo, hown⟩ := HOP3.out.own
        have HSB4 := hide (own_keep hown HSB3.out (by decide) hg4)
        have HZZ4 := hide (own_keep hown HZZ3.out (by decide) hg4)
        have HRD4 := hide (HRD3.out.own hown hg4 (by omega))
        have HOD4 := hide (HOD3.out.grown hg4 ⟨own_other hown (by decide), by obtain ⟨z, hz⟩ := HOD3.out.own; exact own_apart hz hown (by decide)⟩)
        have HBW4 := hide (HBW3.out.grown hg4 HBW3.out.size (fun k e => by have := (World.ownsRow.lt hown k e).1; omega))
        have HPB4 := hide (Nat.le_trans HPB3.out hg4.size)
        have hs34 : x3.heap.size ≤ x4.heap.size := hg4.size
        have HO4 := hide ho4
        clear ho4 hg4 hown
        obtain ⟨A4', c4', hv4, _, _⟩ := HO4.out.form
        rw [List.length_append] at hv4
        subst hv4
        go_wp2_with fail
        refine hKK _ _ trivial (fun _ => True) (fun _ _ => trivial) trivial ?_
        repeat (go_big_quiet_step (fail))
        refine wpQuiet_nil ?_
        intro KK hKK
        try rw [if_pos (by rfl)]
        have c1 := cell_of_row x4 _ 1 _ _ _ HSB4.out
        have f1' := frozen_of_row x4 _ 1 _ _ HSB4.out
        go_wp2_with fail
        refine hKK _ _ trivial (fun _ => True) (fun _ _ => trivial) trivial ?_
        refine wpQuiet_nil ?_
        go_wp2_with fail
        have hst := only_set (World.grownBy.refl x4 (some w2.heap.size)) 1 (.slice A4' (acc.length + p2.length) c4')
        have HRD5 := hide (HRD4.out.far w2.heap.size 1 (.slice A4' (acc.length + p2.length) c4') (by omega))
        go_roundw
        case rel =>
          refine ⟨f, acc ++ p2, r2, A4', c4', HMO2, by have h1 := HLE.out; have h2 := HGL2.out; simp at h2 ⊢; omega, ?_, ?_, HRD5.out, ?_, ?_, ?_, ?_⟩
          · rw [List.length_append, heap_setCell_same x4 _ 1 _ _ _ HSB4.out]; rfl
          · rw [Below.heap_setCell _ _ _ _ (by simp only; omega)]; exact HZZ4.out
          · exact HOD4.out.grown hst ⟨src_other HSB4.out, by obtain ⟨z, hz⟩ := HOD4.out.own; exact own_away hz HSB4.out (fun cur e => by injection e with _ e; exact absurd e (by decide))⟩
          · rw [List.length_append]; exact HO4.out.grown hst ⟨src_other HSB4.out, by obtain ⟨z, hz⟩ := HO4.out.own; exact own_away hz HSB4.out (fun cur e => by injection e with _ e; exact absurd e (by decide))⟩
          · exact Below.setCell HBW4.out (p := ⟨w2.heap.size, 1, none⟩) (by simp only; omega) _
          · simpa using HPB4.out
        case measure =>
          rw [HRD5.out.dlen, ← HRL.out]
          have h2 := HGL2.out
          have h3 := HLN.out
          simp at h2
          omega
      · intro KK hKK
        try rw [if_pos (by rfl)]
        go_wp2_with fail
        refine (HGR.out _ HRD2.out).mono ?_; rintro _ x3 ⟨hg3, v3, rfl, ho3, hr3⟩
        have HSB3 := hide (block_at hg3 HSB2.out (by omega))
        have HZZ3 := hide (block_at hg3 HZZ2.out (by omega))
        have HRD3 := hide hr3
        have HOD3 := hide (HOD2.out.grown hg3 ⟨HRD2.out.other, by obtain ⟨z, hz⟩ := HOD2.out.own; exact own_off hz (by omega)⟩)
        have HOP3 := hide (HOP2.out.grown hg3 ⟨HRD2.out.other, by obtain ⟨z, hz⟩ := HOP2.out.own; exact own_off hz (by omega)⟩)
        have HBW3 := hide (HBW2.out.grown hg3 HBW2.out.size (fun k e => by injection e with e; omega))
        have HPB3 := hide (Nat.le_trans HPB2.out hg3.size)
        have HO3 := hide (ho3.less5 HPB2.out)
        have hs23 : x2.heap.size ≤ x3.heap.size := hg3.size
        clear hg3 ho3 hr3
        go_wp2_with fail
        refine hKK _ _ trivial (fun _ => True) (fun _ _ => trivial) trivial ?_
        repeat (go_big_quiet_step (fail))
        refine wpQuiet_nil ?_
        intro KK hKK
        try rw [if_pos (by rfl)]
        have c1 := cell_of_row x3 _ 1 _ _ _ HSB3.out
        go_wp2_with fail
        clear c1
        refine hKK _ _ trivial (fun _ => True) (fun _ _ => trivial) trivial ?_
        repeat (go_big_quiet_step (fail))
        refine wpQuiet_nil ?_
        intro KK hKK
        try rw [if_pos (by rfl)]
        refine apP_wp (.tmp 40) (.tmp 42) _ rfl Tryz.underlying64 L w3.heap.size w3.heap.size _ v3 acc p2 rfl HOP3.out rfl HO3.out (Nat.le_refl _) (by have h1 := HLE.out; have h2 := HGL2.out; simp at h2; omega) HPB3.out ?_
        intro v4 x4 ho4 hg4
        obtain ⟨zo, hown⟩ := HOP3.out.own
        have HSB4 := hide (own_keep hown HSB3.out (by decide) hg4)
        have HZZ4 := hide (own_keep hown HZZ3.out (by decide) hg4)
        have HRD4 := hide (HRD3.out.own hown hg4 (by omega))
        have HOD4 := hide (HOD3.out.grown hg4 ⟨own_other hown (by decide), by obtain ⟨z, hz⟩ := HOD3.out.own; exact own_apart hz hown (by decide)⟩)
        have HBW4 := hide (HBW3.out.grown hg4 HBW3.out.size (fun k e => by have := (World.ownsRow.lt hown k e).1; omega))
        have HPB4 := hide (Nat.le_trans HPB3.out hg4.size)
        have hs34 : x3.heap.size ≤ x4.heap.size := hg4.size
        have HO4 := hide ho4
        clear ho4 hg4 hown
        obtain ⟨A4', c4', hv4, _, _⟩ := HO4.out.form
        rw [List.length_append] at hv4
        subst hv4
        go_wp2_with fail
        refine hKK _ _ trivial (fun _ => True) (fun _ _ => trivial) trivial ?_
        repeat (go_big_quiet_step (fail))
        refine wpQuiet_nil ?_
        intro KK hKK
        try rw [if_pos (by rfl)]
        have c1 := cell_of_row x4 _ 1 _ _ _ HSB4.out
        have f1' := frozen_of_row x4 _ 1 _ _ HSB4.out
        go_wp2_with fail
        refine hKK _ _ trivial (fun _ => True) (fun _ _ => trivial) trivial ?_
        refine wpQuiet_nil ?_
        go_wp2_with fail
        have hst := only_set (World.grownBy.refl x4 (some w2.heap.size)) 1 (.slice A4' (acc.length + p2.length) c4')
        have HRD5 := hide (HRD4.out.far w2.heap.size 1 (.slice A4' (acc.length + p2.length) c4') (by omega))
        go_roundw
        case rel =>
          refine ⟨f, acc ++ p2, r2, A4', c4', HMO2, by have h1 := HLE.out; have h2 := HGL2.out; simp at h2 ⊢; omega, ?_, ?_, HRD5.out, ?_, ?_, ?_, ?_⟩
          · rw [List.length_append, heap_setCell_same x4 _ 1 _ _ _ HSB4.out]; rfl
          · rw [Below.heap_setCell _ _ _ _ (by simp only; omega)]; exact HZZ4.out
          · exact HOD4.out.grown hst ⟨src_other HSB4.out, by obtain ⟨z, hz⟩ := HOD4.out.own; exact own_away hz HSB4.out (fun cur e => by injection e with _ e; exact absurd e (by decide))⟩
          · rw [List.length_append]; exact HO4.out.grown hst ⟨src_other HSB4.out, by obtain ⟨z, hz⟩ := HO4.out.own; exact own_away hz HSB4.out (fun cur e => by injection e with _ e; exact absurd e (by decide))⟩
          · exact Below.setCell HBW4.out (p := ⟨w2.heap.size, 1, none⟩) (by simp only; omega) _
          · simpa using HPB4.out
        case measure =>
          rw [HRD5.out.dlen, ← HRL.out]
          have h2 := HGL2.out
          have h3 := HLN.out
          simp at h2
          omega
end Go.Proofs.YtfiijndmlmddbaaGreat

namespace Go.Proofs.YtfiijndmlmddbaaGreat
set_option maxRecDepth 100000
open Go.RowKit

/-- A text whose source is that, and whose grammar is that. -/
structure Sr9 (L : List Int) (xs : List Tok) (ds : List Y.Dcl) (ps : List Y.Prd) (G : Gm.Gr) : Prop where
  b : K.Bytes L
  n : L.length ≤ 2000
  t : toks L = .ok xs
  s : ∃ m t9 m2 p1 r1 f1, Y.decls (xs.length + 1) [] xs = .ok ds m ∧ Y.take [9] m = .ok t9 m2 ∧ Y.group [] m2 = .ok p1 r1 ∧ Y.more f1 p1 r1 = .ok ps []
  z : Ez ds ps
  g : Gm.build ds ps = .ok G
set_option maxHeartbeats 8000000 in
theorem parse8 (A : Option Addr) (c : Nat) (L : List Int) (xs : List Tok) (ds : List Y.Dcl) (ps : List Y.Prd) (G : Gm.Gr) (w : World) (hr : RdB w w.heap.size A L) (hc : L.length ≤ c) (hs : Sr9 L xs ds ps G) :
    Calls Tryz.prog 46 #[.slice A L.length c] w fun e w' => ∃ dv pv, e = .returned (.tuple #[.agg #[dv, pv], .complex .f64 0 0, .int .i64 0]) ∧ OwnD L w' w.heap.size dv ds ∧ OwnP L w' w.heap.size pv ps ∧ Below w.heap.size w w' := by
  have SC := fun a w m X Y => show (store a (.complex .f64 X Y) m).run Tryz.prog w = stored Tryz.prog w a (.complex .f64 X Y) m from run_store _ w a _ m rfl
  have HT := hide (fun (w1 : World) (h1 : Below w.heap.size w w1) => rtoks_any A c L xs w1 (hr.up h1) hs.b hc hs.n hs.t)
  have HB0 := hide (fun o => ((Below.refl w.heap.size w).alloc (Nat.le_refl _) o))
  obtain ⟨m, t9, m2, p1, r1, f1, s1, s2, s3, s4⟩ := hs.s
  have hxs : xs.length ≤ 4000 := by have := (toks_rise L hs.b xs hs.t).count; have := hs.n; omega
  have HOF := hide (fun (w1 : World) (A' : Option Addr) (c' : Nat) (h1 : RdT L w1 w1.heap.size A' xs) (h2 : xs.length ≤ c') => of8m L A' c' (Fl.fl (Pl.pos L).1) (Fl.fl (Pl.pos L).2) xs ds p1 ps f1 m m2 r1 t9 w1 h1 h2 hxs s1 hs.z.k s2 s3 s4)
  clear hr hc hs s1 s2 s3 s4
  go_enter Tryz.func46, Tryz.ntmps46
  go_wp2_with fail
  refine (HT.out _ (HB0.out _)).mono ?_; rintro _ w2 ⟨v, rfl, ho, hb⟩
  obtain ⟨A', c', rfl, hxc, _, hrd⟩ := ho.rd
  have h2 : w2.heap[w.heap.size]? = some (.cells #[.slice none 0 0, .slice none 0 0] 66 (0, 0)) := (hb.block w.heap.size (by simp)).trans (heap_alloc_new w _)
  have HB2 := hide ((HB0.out (.cells #[.slice none 0 0, .slice none 0 0] 66)).trans (hb.mono (HB0.out _).size))
  have HO2 := hide (HOF.out w2 A' c' hrd hxc)
  clear ho hb HT HB0 HOF hrd hxc
  go_wp2_with fail
  refine HO2.out.mono ?_; rintro _ w3 ⟨dv, pv, rfl, hod, hop, hb3⟩
  have h3 := (hb3.block w.heap.size (Array.getElem?_eq_some_iff.1 h2).1).trans h2
  have c0 := cell_of_row w3 _ 0 _ _ _ h3
  have c1 := cell_of_row w3 _ 1 _ _ _ h3
  have f0 := frozen_of_row w3 _ 0 _ _ h3
  have f1 := frozen_of_row w3 _ 1 _ _ h3
  have HB3 := hide (HB2.out.trans (hb3.mono HB2.out.size))
  have HX := hide (other_of h3 (by decide))
  obtain ⟨DA, DC, rfl, _, _⟩ := hod.form
  obtain ⟨PA', PC, rfl, _, _⟩ := hop.form
  have HWD : Hid (OwnD L ((w3.setCell ⟨w.heap.size, 0, none⟩ (.slice DA ds.length DC)).setCell ⟨w.heap.size, 1, none⟩ (.slice PA' ps.length PC)) w.heap.size (.slice DA ds.length DC) ds) := hide (by
    obtain ⟨zs, hz⟩ := hod.own
    exact (hod.less HB2.out.size).grown (only_set (only_set (World.grownBy.refl _ _) _ _) _ _) ⟨HX.out, .inr (own_ne hz h3 (by decide))⟩)
  have HWP : Hid (OwnP L ((w3.setCell ⟨w.heap.size, 0, none⟩ (.slice DA ds.length DC)).setCell ⟨w.heap.size, 1, none⟩ (.slice PA' ps.length PC)) w.heap.size (.slice PA' ps.length PC) ps) := hide (by
    obtain ⟨zs, hz⟩ := hop.own
    exact (hop.less HB2.out.size).grown (only_set (only_set (World.grownBy.refl _ _) _ _) _ _) ⟨HX.out, .inr (own_ne hz h3 (by decide))⟩)
  clear hod hop hb3 HO2 h2 h3
  go_wp2
  refine bodyPost_ret (v := .tuple #[.agg #[.slice DA ds.length DC, .slice PA' ps.length PC], .complex .f64 0 0, .int .i64 0]) (by simp [results, Tryz.results46, go_sem, c0, c1]) rfl ?_
  exact ⟨_, _, rfl, HWD.out, HWP.out, below_far (below_far HB3.out _ (Nat.le_refl _)) _ (Nat.le_refl _)⟩
set_option maxHeartbeats 8000000 in
theorem gread9 (A : Option Addr) (c : Nat) (L : List Int) (xs : List Tok) (ds : List Y.Dcl) (ps : List Y.Prd) (G : Gm.Gr) (w : World) (hr : RdB w w.heap.size A L) (hc : L.length ≤ c) (hs : Sr9 L xs ds ps G) :
    Calls Tryz.prog 26 #[.slice A L.length c] w fun e w' => (∃ g, e = .returned (.tuple #[g, .complex .f64 0 0, .int .i64 0]) ∧ RdGr w' w'.heap.size g G ∧ Gm.Fit G) ∧ Below w.heap.size w w' := by
  have SC := fun a w m X Y => show (store a (.complex .f64 X Y) m).run Tryz.prog w = stored Tryz.prog w a (.complex .f64 X Y) m from run_store _ w a _ m rfl
  have hb1 : Below w.heap.size w (w.alloc (.cells grC 26)) := (Below.refl w.heap.size w).alloc (Nat.le_refl _) _
  have HP := hide (parse8 A c L xs ds ps G _ (hr.up hb1) hc hs)
  have HB1 := hide hb1
  have HG1 := hide (heap_alloc_new w (.cells grC 26))
  have HBA := hide (fun (x : World) (A1 A2 : Option Addr) (c1 c2 : Nat) (h1 : RdDl L x x.heap.size A1 ds) (h2 : RdPd L x x.heap.size A2 ps) => build9 L ds ps A1 A2 c1 c2 G x h1 h2 hs.z hs.g)
  unfold grC at HP HB1
  clear hr hc hs hb1
  go_enter Tryz.func26, Tryz.ntmps26
  go_wp2_with fail
  refine HP.out.mono ?_; rintro _ w2 ⟨dv, pv, rfl, hod, hop, hb2⟩
  obtain ⟨A1, c1, rfl, hrd⟩ := dl_of_own hod
  obtain ⟨A2, c2, rfl, hrp⟩ := pd_of_own hop
  have hgb := (hb2.block w.heap.size (by simp)).trans HG1.out
  have HGB := hide hgb
  have HB2 := hide (HB1.out.trans (hb2.mono HB1.out.size))
  have hgz := (Array.getElem?_eq_some_iff.1 hgb).1
  obtain ⟨w3, hw3⟩ : ∃ x, x = w2.alloc (.cells #[.slice A1 ds.length c1, .slice A2 ps.length c2] 66) := ⟨_, rfl⟩
  have HB3 : Hid (Below w.heap.size w w3) := hide (by rw [hw3]; exact HB2.out.alloc HB2.out.size _)
  have hb23 : Below w2.heap.size w2 w3 := by rw [hw3]; exact (Below.refl _ _).alloc (Nat.le_refl _) _
  have HG3 : Hid (w3.heap[w.heap.size]? = some (.cells grC 26 (0, 0))) := hide ((hb23.block _ hgz).trans hgb)
  have hs3 : w2.heap.size ≤ w3.heap.size := hb23.size
  have HC := hide (HBA.out w3 A1 A2 c1 c2 (fun hn => by
      obtain ⟨g, o, e, h1, h2⟩ := (hrd.keep hb23) hn
      refine ⟨g, o, e, by omega, fun i hi => ?_⟩
      obtain ⟨k1, A', c', k2, k3⟩ := h2 i hi
      exact ⟨k1, A', c', k2, fun hn => by obtain ⟨g, o, e, q1, q2⟩ := k3 hn; exact ⟨g, o, e, by omega, q2⟩⟩) (fun hn => by
      obtain ⟨g, o, e, h1, h2⟩ := (hrp.keep hb23) hn
      refine ⟨g, o, e, by omega, fun i hi => ?_⟩
      obtain ⟨k1, k2, ⟨A', c', k3, k4⟩, k5⟩ := h2 i hi
      exact ⟨k1, k2, ⟨A', c', k3, fun hn => by obtain ⟨g, o, e, q1, q2⟩ := k4 hn; exact ⟨g, o, e, by omega, q2⟩⟩, k5⟩))
  rw [hw3] at HC HB3 HG3
  clear hb2 hgb hod hop hrd hrp hw3 hb23 hs3 HBA
  go_wp2_with fail
  refine HC.out.mono ?_; rintro _ w4 ⟨⟨g, rfl, hgw, hfit⟩, hb4⟩
  have hgb := (hb4.block w.heap.size (by simp; omega)).trans HG3.out
  have g0 : w4.cell? ⟨w.heap.size, 0, none⟩ = some (.slice none 0 0) := cell_of_row w4 _ 0 _ _ _ hgb
  have g1 : w4.cell? ⟨w.heap.size, 1, none⟩ = some (.slice none 0 0) := cell_of_row w4 _ 1 _ _ _ hgb
  have g2 : w4.cell? ⟨w.heap.size, 2, none⟩ = some (.slice none 0 0) := cell_of_row w4 _ 2 _ _ _ hgb
  have g3 : w4.cell? ⟨w.heap.size, 3, none⟩ = some (.int .i64 0) := cell_of_row w4 _ 3 _ _ _ hgb
  have f0 := frozen_of_row w4 _ 0 _ _ hgb
  have f1 := frozen_of_row w4 _ 1 _ _ hgb
  have f2 := frozen_of_row w4 _ 2 _ _ hgb
  have f3 := frozen_of_row w4 _ 3 _ _ hgb
  have hgz4 := (Array.getElem?_eq_some_iff.1 hgb).1
  have HB4 := hide (HB3.out.trans (hb4.mono HB3.out.size))
  obtain ⟨B, N, R, cs, vT, vN, vR, rfl, h, hN⟩ := hgw
  obtain ⟨⟨AT, cT, rfl⟩, ⟨AN, cN, rfl⟩, ⟨AR, cR, rfl⟩⟩ := wraw_form h
  have HGR := hide (fun u0 u1 u2 u3 => (h.more hN).grown (only_set (only_set (only_set (only_set (World.grownBy.refl w4 (some w.heap.size)) 0 u0) 1 u1) 2 u2) 3 u3) (⟨fun g e => by injection e with e; subst e; exact ⟨_, _, hgb, by decide, by decide, by decide, .inl ⟨by decide, by decide⟩⟩⟩))
  have HFI := hide hfit
  clear hb4 hgb h hN hfit
  go_wp2
  refine bodyPost_ret (v := .tuple #[.agg #[.slice AT G.ts.length cT, .slice AN G.ns.length cN, .slice AR G.rs.length cR, .int .i64 G.st], .complex .f64 0 0, .int .i64 0]) (by simp [results, Tryz.results26, go_sem, g0, g1, g2, g3]) rfl ?_
  exact ⟨⟨_, rfl, (HGR.out _ _ _ _).rd (by simp) G.st, HFI.out⟩, below_far (below_far (below_far (below_far HB4.out _ (Nat.le_refl _)) _ (Nat.le_refl _)) _ (Nat.le_refl _)) _ (Nat.le_refl _)⟩
end Go.Proofs.YtfiijndmlmddbaaGreat

namespace Go.Proofs.YtfiijndmlmddbaaGreat
set_option maxRecDepth 100000
open Go.RowKit

def txB (s : List Int) : Bool := (s.all fun z => decide (0 ≤ z) && decide (z < 256)) && decide (s.length ≤ 100)
def refB (x : Tok) : Bool := txB x.t && Gm.named x.t && !(x.t == [101, 114, 114, 111, 114])
def dcB (d : Y.Dcl) : Bool := (d.k == 4 || d.k == 5) && (d.ns.all fun x => txB x.t && Gm.named x.t) && decide (d.ns.length ≤ 1000)
def pdB (p : Y.Prd) : Bool := txB p.l.t && T.isName p.l.t && (p.r.all refB) && (match p.p with | none => true | some x => refB x) && decide (p.r.length ≤ 1000)
def ezB (ds : List Y.Dcl) (ps : List Y.Prd) : Bool := ds.all dcB && ps.all pdB && decide (ds.length ≤ 1000) && decide (ps.length ≤ 1000) && decide (0 < ps.length)
theorem txB_ok {s : List Int} (h : txB s = true) : K.Tx s := by
  unfold txB at h
  rw [Bool.and_eq_true, decide_eq_true_eq] at h
  exact ⟨bytes_lit _ h.1, by omega⟩
theorem refB_ok {x : Tok} (h : refB x = true) : Ref9 x := by
  unfold refB at h
  simp only [Bool.and_eq_true] at h
  exact ⟨txB_ok h.1.1, h.1.2, by simpa using h.2⟩
theorem ezB_ok {ds : List Y.Dcl} {ps : List Y.Prd} (h : ezB ds ps = true) : Ez ds ps := by
  unfold ezB at h
  simp only [Bool.and_eq_true, decide_eq_true_eq, List.all_eq_true] at h
  obtain ⟨⟨⟨⟨h1, h2⟩, h3⟩, h4⟩, h5⟩ := h
  refine ⟨fun d hd => ?_, fun d hd => ?_, fun p hp => ?_, fun p hp => ?_, h3, h4, h5⟩
  · have := h1 d hd
    unfold dcB at this
    simp only [Bool.and_eq_true, Bool.or_eq_true, beq_iff_eq] at this
    exact this.1.1
  · have := h1 d hd
    unfold dcB at this
    simp only [Bool.and_eq_true, List.all_eq_true, decide_eq_true_eq] at this
    exact ⟨fun x hx => ⟨txB_ok (this.1.2 x hx).1, (this.1.2 x hx).2⟩, by omega⟩
  · have := h2 p hp
    unfold pdB at this
    simp only [Bool.and_eq_true] at this
    exact ⟨txB_ok this.1.1.1.1, this.1.1.1.2⟩
  · have := h2 p hp
    unfold pdB at this
    simp only [Bool.and_eq_true, List.all_eq_true, decide_eq_true_eq] at this
    refine ⟨fun x hx => refB_ok (this.1.1.2 x hx), fun x hx => ?_, this.2⟩
    have h6 := this.1.2
    rw [hx] at h6
    exact refB_ok h6
/-- The grammar of a text that is known. -/
def gr9 (L : List Int) : Option Gm.Gr :=
  match toks L with
  | .ok xs => match Y.decls (xs.length + 1) [] xs with
    | .ok ds m => match Y.take [9] m with
      | .ok _ m2 => match Y.group [] m2 with
        | .ok p1 r1 => match Y.more (r1.length + 1) p1 r1 with
          | .ok ps [] => match ezB ds ps, Gm.build ds ps with
            | true, .ok G => some G
            | _, _ => none
          | _ => none
        | _ => none
      | _ => none
    | _ => none
  | _ => none
theorem gr9_ok {L : List Int} {G : Gm.Gr} (hb : (L.all fun z => decide (0 ≤ z) && decide (z < 256)) = true) (hn : L.length ≤ 2000) (h : gr9 L = some G) : ∃ xs ds ps, Sr9 L xs ds ps G := by
  unfold gr9 at h
  split at h
  · rename_i xs h1
    split at h
    · rename_i ds m h2
      split at h
      · rename_i t9 m2 h3
        split at h
        · rename_i p1 r1 h4
          split at h
          · rename_i ps h7
            split at h
            · rename_i h5 h6
              injection h with h
              subst h
              exact ⟨xs, ds, ps, bytes_lit _ hb, hn, h1, ⟨m, t9, m2, p1, r1, _, h2, h3, h4, h7⟩, ezB_ok h5, h6⟩
            · cases h
          · cases h
        · cases h
      · cases h
    · cases h
  · cases h
/-- Read of a text that is known. -/
theorem gread_const (L : List Int) (G : Gm.Gr) (hb : (L.all fun z => decide (0 ≤ z) && decide (z < 256)) = true) (hl : L.length ≤ 2000) (hg : gr9 L = some G) (w : World) (n : Nat) (hw : n = w.heap.size) :
    Calls Tryz.prog 26 #[.slice (some ⟨n, 0, none⟩) L.length L.length] (w.alloc (cellsM L)) fun e w' => (∃ g, e = .returned (.tuple #[g, .complex .f64 0 0, .int .i64 0]) ∧ RdGr w' w'.heap.size g G ∧ Gm.Fit G) ∧ Below w.heap.size w w' := by
  subst hw
  obtain ⟨xs, ds, ps, hs⟩ := gr9_ok hb hl hg
  obtain ⟨r1, r2⟩ := litM w L
  exact (gread9 _ L.length L xs ds ps G _ r1 (Nat.le_refl _) hs).mono fun e w' h => ⟨h.1, r2.trans (h.2.mono r2.size)⟩
end Go.Proofs.YtfiijndmlmddbaaGreat

namespace Go.Proofs.YtfiijndmlmddbaaGreat
set_option maxRecDepth 100000
open Go.RowKit

def et11a : List Int := [37, 37, 32, 115, 32, 58, 32, 39, 97, 39, 32, 117, 32, 124, 32, 39, 98, 39, 32, 124, 32, 59, 32, 117, 32, 58, 32, 117, 32, 39, 99, 39, 32, 59, 32, 118, 32, 58, 32, 39, 100, 39, 32, 115, 32, 59]
def et11b : List Int := [37, 37, 32, 115, 32, 58, 32, 117, 32, 59, 32, 117, 32, 58, 32, 117, 32, 39, 97, 39, 32, 59]
def gt11a : Gm.Gr := ⟨[⟨[39, 97, 39], 0, 0⟩, ⟨[39, 98, 39], 0, 0⟩, ⟨[39, 99, 39], 0, 0⟩, ⟨[39, 100, 39], 0, 0⟩], [[115], [117], [118]], [⟨0, [0, -2], 0⟩, ⟨0, [1], 1⟩, ⟨0, [], -1⟩, ⟨1, [-2, 2], 2⟩, ⟨2, [3, -1], 3⟩], 0⟩
def gt11b : Gm.Gr := ⟨[⟨[39, 97, 39], 0, 0⟩], [[115], [117]], [⟨0, [-2], -1⟩, ⟨1, [-2, 0], 0⟩], 0⟩
theorem gre11a : gr9 et11a = some gt11a := by kernel_rfl
theorem gre11b : gr9 et11b = some gt11b := by kernel_rfl
theorem right11a : Gm.right gt11a = true := by decide +kernel
theorem right11b : Gm.right gt11b = true := by decide +kernel
theorem nul11a : Gm.gn false gt11a.rs gt11a.ns.length = [true, false, false] := by
  rw [← Gm.grow_gn (Gm.right_ok.1 right11a).lin]; decide +kernel
theorem pro11a : Gm.gn true gt11a.rs gt11a.ns.length = [true, false, true] := by
  rw [← Gm.grow_gn (Gm.right_ok.1 right11a).lin]; decide +kernel
theorem rea11a : Gm.rc gt11a = [true, false, false] := by
  have h := Gm.right_ok.1 right11a
  rw [← Gm.reach_rc h.lin h.sin h.s0 h.s1, pro11a]; decide +kernel
theorem pro11b : Gm.gn true gt11b.rs gt11b.ns.length = [false, false] := by
  rw [← Gm.grow_gn (Gm.right_ok.1 right11b).lin]; decide +kernel
theorem st11 {G : Gm.Gr} (h : Gm.right G = true) : Gm.tr (Gm.Gn true G.rs G.st) = (Gm.gn true G.rs G.ns.length).getD G.st.toNat false := by
  have hok := Gm.right_ok.1 h
  have h0 := hok.s0
  have h1 := hok.s1
  rw [Gm.gn_at _ _ _ _ (by omega), Int.toNat_of_nonneg h0]
theorem rdE11a : Gm.rdE gt11a = 0 := Gm.rdE_ok right11a (by rw [st11 right11a, pro11a]; decide)
theorem rdE11b : Gm.rdE gt11b = 9 := Gm.rdE_empty right11b (by rw [st11 right11b, pro11b]; decide)
theorem rdE11c : Gm.rdE Gm.gr0 = 1 := Gm.rdE_no (by decide +kernel)
theorem use11a {x : Gm.Rl} (hx : x ∈ gt11a.rs) : Gm.use gt11a x = Gm.rcB [true, false, true] [true, false, false] x := by
  rw [← Gm.use_rcB (Gm.right_ok.1 right11a) hx, pro11a, rea11a]
theorem flt11a : gt11a.rs.filter (Gm.rcB [true, false, true] [true, false, false]) = [⟨0, [1], 1⟩, ⟨0, [], -1⟩] := by kernel_rfl
theorem krs11a : Gm.krs gt11a = [⟨0, [1], 1⟩, ⟨0, [], -1⟩] := by
  have e : Gm.krs gt11a = gt11a.rs.filter (Gm.rcB [true, false, true] [true, false, false]) := List.filter_congr fun x hx => use11a hx
  exact e.trans flt11a
theorem kl11a : Gm.kl gt11a gt11a.rs.length = [1, 2] := by
  have e : Gm.kl gt11a gt11a.rs.length = ((List.range gt11a.rs.length).filter fun j => (gt11a.rs[j]?).any (Gm.rcB [true, false, true] [true, false, false])).map fun j : Nat => (j : Int) := by
    unfold Gm.kl
    congr 1
    refine List.filter_congr fun j hj => ?_
    have hj := List.mem_range.1 hj
    rw [List.getElem?_eq_getElem hj, Option.any_some, Option.any_some]
    exact use11a (List.getElem_mem hj)
  rw [e]; decide +kernel
theorem rdL11a : Gm.rdL gt11a = [1, 2] := by unfold Gm.rdL; rw [if_pos rdE11a, kl11a]
theorem olds11a : Gm.olds gt11a = [0] := by unfold Gm.olds; rw [krs11a]; decide +kernel
theorem rdG11a : Gm.rdG gt11a = Gm.reduce gt11a := by unfold Gm.rdG; rw [if_pos rdE11a]
theorem len11a : (Gm.rdG gt11a).ts.length = 4 ∧ (Gm.rdG gt11a).ns.length = 1 ∧ (Gm.rdG gt11a).rs.length = 2 := by
  rw [rdG11a]
  refine ⟨rfl, ?_, ?_⟩
  · rw [Gm.red_ns, olds11a]; rfl
  · unfold Gm.reduce; rw [List.length_map, krs11a]; rfl
/-- What was reduced is reduced. -/
theorem Gm.isB_red {G : Gm.Gr} (h : Gm.rdE G = 0) : Gm.isB (Gm.rdG G) = true := by
  have hr : Gm.right G = true := by
    cases q : Gm.right G
    · rw [Gm.rdE_no q] at h; cases h
    · rfl
  have hp : Gm.Gn true G.rs G.st := by
    cases q : Gm.tr (Gm.Gn true G.rs G.st)
    · rw [Gm.rdE_empty hr q] at h; cases h
    · exact Gm.tr_iff.1 q
  have hok := Gm.right_ok.1 hr
  have hG : Gm.rdG G = Gm.reduce G := by unfold Gm.rdG; rw [if_pos h]
  have hok2 := Gm.red_ok hok hp
  have hp2 : Gm.Gn true (Gm.reduce G).rs (Gm.reduce G).st := by
    have := (Gm.red_all (G := G) (i := (Gm.reduce G).st.toNat) (by have := hok2.s0; have := hok2.s1; omega)).1
    rwa [Int.toNat_of_nonneg hok2.s0] at this
  have h2 : Gm.rdE (Gm.reduce G) = 0 := Gm.rdE_ok (Gm.right_ok.2 hok2) (Gm.tr_iff.2 hp2)
  have hG2 : Gm.rdG (Gm.reduce G) = Gm.reduce G := by unfold Gm.rdG; rw [if_pos h2, Gm.red_red hp]
  unfold Gm.isB
  rw [hG, h2, hG2, Gm.same_self]; rfl
theorem is11a : Gm.isB (Gm.rdG gt11a) = true := Gm.isB_red rdE11a
theorem not11a : Gm.isB gt11a = false := by
  unfold Gm.isB Gm.same
  have : eqb gt11a.rs (Gm.rdG gt11a).rs = false := eqb_no (fun e => by have h := len11a.2.2; rw [← e] at h; cases h)
  rw [this]; simp
end Go.Proofs.YtfiijndmlmddbaaGreat

namespace Go.Proofs.YtfiijndmlmddbaaGreat
open Go.RowKit

theorem LB.take_snoc (l : List Bool) (k : Nat) (h : k < l.length) : l.take (k + 1) = l.take k ++ [l.getD k false] := by
  rw [LB.gd_lt h, List.take_succ_eq_append_getElem h]
theorem bools_any (A A' : Option Addr) (ca cb : Nat) (xs ys : List Bool) (w : World) (hra : RdO w w.heap.size A xs) (hrb : RdO w w.heap.size A' ys) (hxl : xs.length ≤ 9223372036854775807) (hyl : ys.length ≤ 9223372036854775807) :
    Calls Tryz.prog 9 #[.slice A xs.length ca, .slice A' ys.length cb] w fun e w' => e = .returned (.bool (decide (xs = ys))) ∧ ∃ n, w' = w.drewN n := by
  by_cases hl : xs.length = ys.length
  · have HL := hide hl
    rw [← hl]
    have hne : ((xs.length : Int) != (xs.length : Int)) = false := by simp
    clear hl hyl
    go_enter Tryz.func9, Tryz.ntmps9
    go_wp2
    go_loopw [5] (fun vi wr => ∃ (k q : Nat), k ≤ xs.length ∧ vi = .int .i64 k ∧ xs.take k = ys.take k ∧ wr = w.drewN q) (fun vi _ => xs.length - (intOf vi).toNat)
    case atStart => exact ⟨0, 0, Nat.zero_le _, rfl, rfl, rfl⟩
    case round =>
      obtain ⟨k, q, hk, rfl, ht, hwr⟩ := hrel
      have HT := hide ht
      have HW := hide hwr
      by_cases hlt : k < xs.length
      · obtain ⟨ga, oa, rfl, _, ha⟩ := hra (by omega)
        obtain ⟨gb, ob, rfl, _, hb⟩ := hrb (by have := HL.out; omega)
        have ca' : wr.cell? ⟨ga, oa + k, none⟩ = some (.bool (xs.getD k false)) := by rw [hwr]; exact ha k hlt
        have cb' : wr.cell? ⟨gb, ob + k, none⟩ = some (.bool (ys.getD k false)) := by rw [hwr]; exact hb k (by have := HL.out; omega)
        have k0 : (0 : Int) ≤ (k : Int) := by omega
        have k1 : (k : Int) < (xs.length : Int) := by omega
        clear ha hb ht hwr hra hrb
        by_cases hxy : xs.getD k false = ys.getD k false
        · have HN : Hid (xs.take (k + 1) = ys.take (k + 1)) := by
            show xs.take (k + 1) = ys.take (k + 1)
            rw [LB.take_snoc xs k hlt, LB.take_snoc ys k (by have := HL.out; omega), HT.out, hxy]
          rw [← hxy] at cb'
          generalize xs.getD k false = x at *
          clear hxy
          cases x
          · go_wp2_with fail
            go_quiet (fail)
            go_wp2
            go_roundw
            case rel => exact ⟨k + 1, _, hlt, by go_num, HN.out, by rw [HW.out]; exact World.drewN_drewN _ _ _⟩
            case measure => simp [intOf]; omega
          · go_wp2_with fail
            go_quiet (fail)
            go_wp2
            go_roundw
            case rel => exact ⟨k + 1, _, hlt, by go_num, HN.out, by rw [HW.out]; exact World.drewN_drewN _ _ _⟩
            case measure => simp [intOf]; omega
        · have HN : Hid (decide (xs = ys) = false) := by
            show decide (xs = ys) = false
            rw [decide_eq_false_iff_not]; rintro rfl; exact hxy rfl
          generalize xs.getD k false = x at *
          generalize ys.getD k false = y at *
          cases x
          · cases y
            · exact absurd rfl hxy
            · clear hxy
              go_wp2_with fail
              go_quiet (fail)
              go_wp2
              go_ret
              exact ⟨ret_bool HN.out.symm, _, by rw [HW.out, World.drewN_drewN]⟩
          · cases y
            · clear hxy
              go_wp2_with fail
              go_quiet (fail)
              go_wp2
              go_ret
              exact ⟨ret_bool HN.out.symm, _, by rw [HW.out, World.drewN_drewN]⟩
            · exact absurd rfl hxy
      · obtain rfl : k = xs.length := by omega
        have HE : Hid (decide (xs = ys) = true) := by
          show decide (xs = ys) = true
          rw [decide_eq_true_iff]
          have h := HT.out
          rwa [List.take_length, HL.out, List.take_length] at h
        clear ht
        subst hwr
        go_wp2
        go_ret
        exact ⟨ret_bool HE.out.symm, _, rfl⟩
  · have HE : Hid (decide (xs = ys) = false) := by
      show decide (xs = ys) = false
      rw [decide_eq_false_iff_not]; rintro rfl; exact hl rfl
    have hne : ((xs.length : Int) != (ys.length : Int)) = true := by simp; omega
    go_enter Tryz.func9, Tryz.ntmps9
    go_wp2
    go_ret
    exact ⟨ret_bool HE.out.symm, 0, rfl⟩

end Go.Proofs.YtfiijndmlmddbaaGreat

namespace Go.Proofs.YtfiijndmlmddbaaGreat
set_option maxRecDepth 100000
open Go.RowKit

theorem bools_same (A A' : Option Addr) (ca cb : Nat) (xs : List Bool) (w : World) (hra : RdO w w.heap.size A xs) (hrb : RdO w w.heap.size A' xs) (hxl : xs.length ≤ 9223372036854775807) :
    Calls Tryz.prog 9 #[.slice A xs.length ca, .slice A' xs.length cb] w fun e w' => e = .returned (.bool true) ∧ ∃ n, w' = w.drewN n :=
  (bools_any A A' ca cb xs xs w hra hrb hxl hxl).mono fun e w' h => ⟨by rw [h.1, decide_eq_true rfl], h.2⟩
theorem ints_same (A A' : Option Addr) (ca cb : Nat) (xs : List Int) (w : World) (hra : RdI w w.heap.size A xs) (hrb : RdI w w.heap.size A' xs) (hxl : xs.length ≤ 9223372036854775807) :
    Calls Tryz.prog 22 #[.slice A xs.length ca, .slice A' xs.length cb] w fun e w' => e = .returned (.bool true) ∧ ∃ n, w' = w.drewN n :=
  (ints_any A A' ca cb xs xs w hra hrb hxl hxl).mono fun e w' h => ⟨by rw [h.1, decide_eq_true rfl], h.2⟩
theorem gr0_fit : Gm.Fit Gm.gr0 := ⟨by simp [Gm.gr0], by simp [Gm.gr0], by simp [Gm.gr0], by unfold Gm.In; simp [Gm.gr0]⟩
set_option maxHeartbeats 8000000 in
theorem alive11_any (w : World) : Calls Tryz.prog 7 #[] w fun e w' => e = .returned (.bool true) ∧ Below w.heap.size w w' := by
  have T1 := hide (gread_const et11a gt11a (by decide) (by decide) gre11a w w.heap.size rfl)
  have T2 := hide (fun (w1 : World) (n : Nat) (hw : n = w1.heap.size) => gread_const et11b gt11b (by decide) (by decide) gre11b w1 n hw)
  have V1 := hide (fun w : World => show (convert 47 47 (.slice (some ⟨w.heap.size, 0, none⟩) 46 46)).run Tryz.prog (w.alloc (.cells #[.int .u8 37, .int .u8 37, .int .u8 32, .int .u8 115, .int .u8 32, .int .u8 58, .int .u8 32, .int .u8 39, .int .u8 97, .int .u8 39, .int .u8 32, .int .u8 117, .int .u8 32, .int .u8 124, .int .u8 32, .int .u8 39, .int .u8 98, .int .u8 39, .int .u8 32, .int .u8 124, .int .u8 32, .int .u8 59, .int .u8 32, .int .u8 117, .int .u8 32, .int .u8 58, .int .u8 32, .int .u8 117, .int .u8 32, .int .u8 39, .int .u8 99, .int .u8 39, .int .u8 32, .int .u8 59, .int .u8 32, .int .u8 118, .int .u8 32, .int .u8 58, .int .u8 32, .int .u8 39, .int .u8 100, .int .u8 39, .int .u8 32, .int .u8 115, .int .u8 32, .int .u8 59] 5)) = .ok (.slice (some ⟨w.heap.size, 0, none⟩) 46 46) (w.alloc (cellsM et11a)) from lit_conv w et11a 46 46)
  have V2 := hide (fun w : World => show (convert 47 47 (.slice (some ⟨w.heap.size, 0, none⟩) 22 22)).run Tryz.prog (w.alloc (.cells #[.int .u8 37, .int .u8 37, .int .u8 32, .int .u8 115, .int .u8 32, .int .u8 58, .int .u8 32, .int .u8 117, .int .u8 32, .int .u8 59, .int .u8 32, .int .u8 117, .int .u8 32, .int .u8 58, .int .u8 32, .int .u8 117, .int .u8 32, .int .u8 39, .int .u8 97, .int .u8 39, .int .u8 32, .int .u8 59] 5)) = .ok (.slice (some ⟨w.heap.size, 0, none⟩) 22 22) (w.alloc (cellsM et11b)) from lit_conv w et11b 22 22)
  have U1 := V1.out w
  have hbg := fun w => build_gr11 w
  have hs1 : ∀ (x : World) (o : Obj), (x.alloc o).heap.size = x.heap.size + 1 := fun x o => by simp
  have hl1 : et11a.length = 46 := rfl
  have hl2 : et11b.length = 22 := rfl
  rw [hl1] at T1
  rw [hl2] at T2
  clear V1 hl1 hl2
  go_enter Tryz.func7, Tryz.ntmps7
  go_wp2_with fail
  refine T1.out.mono ?_; rintro _ w1 ⟨⟨g, rfl, hg1, hft1⟩, hb1⟩
  have HB1 := hide hb1
  have HR1 := hide (fun (x : World) (h : Below w1.heap.size w1 x) => tReduce_any g gt11a w1.heap.size x (hg1.below h (Nat.le_refl _)) hft1 h.size)
  have HI1 := hide (fun (x : World) (h : Below w1.heap.size w1 x) => tIs_any g gt11a w1.heap.size x (hg1.below h (Nat.le_refl _)) hft1 h.size)
  have HN1 := hide (fun (x : World) (h : Below w1.heap.size w1 x) => (show Calls _ _ _ _ (RowT _ _) from (nullable_any g gt11a w1.heap.size x (hg1.below h (Nat.le_refl _)) hft1 h.size).mono fun e w' k => k.1 right11a))
  have HP1 := hide (fun (x : World) (h : Below w1.heap.size w1 x) => (show Calls _ _ _ _ (RowT _ _) from (productive_any g gt11a w1.heap.size x (hg1.below h (Nat.le_refl _)) hft1 h.size).mono fun e w' k => k.1 right11a))
  have HC1 := hide (fun (x : World) (h : Below w1.heap.size w1 x) => (show Calls _ _ _ _ (RowT _ _) from (reachable_any g gt11a w1.heap.size x (hg1.below h (Nat.le_refl _)) hft1 h.size).mono fun e w' k => k.1 right11a))
  rw [nul11a] at HN1
  rw [pro11a] at HP1
  rw [rea11a] at HC1
  rw [not11a] at HI1
  unfold RedAns at HR1
  rw [rdL11a, rdE11a] at HR1
  have HF1 := hide hft1
  obtain ⟨AT1, cT1, AN1, cN1, AR1, cR1, rfl, _, _, _, _, _, _⟩ := hg1
  have HQ1 := hide (One.start w1 #[.slice AT1 gt11a.ts.length cT1, .slice AN1 gt11a.ns.length cN1, .slice AR1 gt11a.rs.length cR1, .int .i64 gt11a.st])
  have HY1 := hide (fun (x : World) (h : One w1 #[.slice AT1 gt11a.ts.length cT1, .slice AN1 gt11a.ns.length cN1, .slice AR1 gt11a.rs.length cR1, .int .i64 gt11a.st] x) => And.intro (h.c 0 _ rfl) (And.intro (h.c 1 _ rfl) (And.intro (h.c 2 _ rfl) (h.c 3 _ rfl))))
  have HBF := hide (fun (x : World) (h : One w1 #[.slice AT1 gt11a.ts.length cT1, .slice AN1 gt11a.ns.length cN1, .slice AR1 gt11a.rs.length cR1, .int .i64 gt11a.st] x) => hb1.trans (h.below.mono hb1.size))
  clear hb1 U1 T1 hft1
  go_wp2_with fail
  refine (HR1.out _ HQ1.out.below).mono ?_; rintro _ w2 ⟨g2, A2, c2, rfl, hg2, hr2, hb2⟩
  have HB2 := hide (HQ1.out.on hb2)
  have HI2 := hide (fun (x : World) (h : Below w2.heap.size w2 x) => tIs_any g2 (Gm.rdG gt11a) w2.heap.size x (hg2.below h (Nat.le_refl _)) (Gm.rdG_fit HF1.out) h.size)
  rw [is11a] at HI2
  have HR2 := hide hr2
  obtain ⟨B0, d0, B1, d1, B2, d2, rfl, _⟩ := hg2
  rw [len11a.1, len11a.2.1, len11a.2.2] at HI2 ⊢
  have HQ2 := hide (One.start w2 #[.slice B0 4 d0, .slice B1 1 d1, .slice B2 2 d2, .int .i64 (Gm.rdG gt11a).st])
  have HY2 := hide (fun (x : World) (h : One w2 #[.slice B0 4 d0, .slice B1 1 d1, .slice B2 2 d2, .int .i64 (Gm.rdG gt11a).st] x) => And.intro (h.c 0 _ rfl) (And.intro (h.c 1 _ rfl) (And.intro (h.c 2 _ rfl) (h.c 3 _ rfl))))
  generalize (Gm.rdG gt11a).st = st2 at *
  clear hb2 hr2 HR1
  have U2 := fun (o : Obj) => V2.out (w2.alloc o)
  simp only [hs1] at U2
  clear V2
  go_wp2_with fail
  refine (T2.out _ _ (hs1 _ _).symm).mono ?_; rintro _ w3 ⟨⟨g3, rfl, hg3, hft3⟩, hb3⟩
  have HB3 := hide (HQ2.out.on hb3)
  have HR3 := hide (fun (x : World) (h : Below w3.heap.size w3 x) => tReduce_any g3 gt11b w3.heap.size x (hg3.below h (Nat.le_refl _)) hft3 h.size)
  unfold RedAns at HR3
  rw [rdE11b] at HR3
  obtain ⟨AT3, cT3, AN3, cN3, AR3, cR3, rfl, _, _, _, _, _, _⟩ := hg3
  have HQ3 := hide (One.start w3 #[.slice AT3 gt11b.ts.length cT3, .slice AN3 gt11b.ns.length cN3, .slice AR3 gt11b.rs.length cR3, .int .i64 gt11b.st])
  clear U2 hb3 T2 hft3
  go_wp2_with fail
  refine (HR3.out _ HQ3.out.below).mono ?_; rintro _ w4 ⟨g4, A4, c4, rfl, hg4, hr4, hb4⟩
  have HB4 := hide (HB3.out.on (HQ3.out.on hb4).below)
  obtain ⟨C0, f0, C1, f1, C2, f2, rfl, _⟩ := hg4
  have HR5 := hide (fun (x : World) => tReduce_any _ Gm.gr0 x.heap.size x (gr0_rd x _) gr0_fit (Nat.le_refl _))
  unfold RedAns at HR5
  rw [rdE11c] at HR5
  clear hb4 hr4 HR3
  go_wp2_with fail
  refine (HR5.out _).mono ?_; rintro _ w5 ⟨g5, A5, c5, rfl, hg5, hr5, hb5⟩
  have HB5 := hide ((HB4.out.alloc _).on hb5)
  obtain ⟨D0, h0, D1, h1, D2, h2, rfl, _⟩ := hg5
  clear hb5 hr5 HR5
  have HW5 := hide (HB5.out.alloc (.cells #[.slice D0 (Gm.rdG Gm.gr0).ts.length h0, .slice D1 (Gm.rdG Gm.gr0).ns.length h1, .slice D2 (Gm.rdG Gm.gr0).rs.length h2, .int .i64 (Gm.rdG Gm.gr0).st] 26))
  obtain ⟨w6, hw6⟩ : ∃ x, x = w5.alloc (.cells #[.slice D0 (Gm.rdG Gm.gr0).ts.length h0, .slice D1 (Gm.rdG Gm.gr0).ns.length h1, .slice D2 (Gm.rdG Gm.gr0).rs.length h2, .int .i64 (Gm.rdG Gm.gr0).st] 26) := ⟨_, rfl⟩
  go_upto_region 6 with fail
  rw [← hw6] at HW5 ⊢
  clear hw6
  have HK1 : Hid (One w1 #[.slice AT1 gt11a.ts.length cT1, .slice AN1 gt11a.ns.length cN1, .slice AR1 gt11a.rs.length cR1, .int .i64 gt11a.st] w6) := hide (HB2.out.on HW5.out.below)
  have l1 : w1.heap.size < w6.heap.size := HK1.out.size
  have l2 : w2.heap.size < w6.heap.size := HW5.out.size
  have y0 := (HY2.out w6 HW5.out).1
  have y1 := (HY2.out w6 HW5.out).2.1
  have y2 := (HY2.out w6 HW5.out).2.2.1
  have HRK := hide ((HR2.out.below HW5.out.below (Nat.le_refl _)).more HW5.out.below.size)
  have HLI := hide (fun (x : World) (h : RdI x x.heap.size A2 [1, 2]) => (show Calls Tryz.prog 22 #[.slice A2 2 c2, .slice (some ⟨x.heap.size, 0, none⟩) 2 2] (x.alloc (.cells #[.int .i64 1, .int .i64 2] 3)) _ from ints_same A2 (some ⟨x.heap.size, 0, none⟩) c2 2 [1, 2] (x.alloc (cellsI [1, 2])) ((h.alloc (Nat.le_refl _) _).more (by simp)) (litI1 x [1, 2]).1 (by decide)))
  clear HB1 HB2 HB3 HB4 HB5 HQ1 HQ2 HQ3 HF1 HR2
  go_wp2_with fail
  refine (HLI.out w6 HRK.out).mono ?_; rintro _ w7 ⟨rfl, n7, hw7⟩
  have HK7 : Hid (One w1 #[.slice AT1 gt11a.ts.length cT1, .slice AN1 gt11a.ns.length cN1, .slice AR1 gt11a.rs.length cR1, .int .i64 gt11a.st] w7) := hide (by rw [hw7]; exact (HK1.out.alloc _).drewN _)
  have HW7 : Hid (One w2 #[.slice B0 4 d0, .slice B1 1 d1, .slice B2 2 d2, .int .i64 st2] w7) := hide (by rw [hw7]; exact (HW5.out.alloc _).drewN _)
  clear hw7 HLI HRK y0 y1 y2 l1 l2
  obtain ⟨x0, x1, x2, x3⟩ := HY1.out w7 HK7.out
  have l1 : w1.heap.size < w7.heap.size := HK7.out.size
  go_wp2_with fail
  refine (HN1.out w7 HK7.out.below).mono ?_; rintro _ w8 ⟨q8, rfl, hq8, hu8, hb8⟩
  have HK8 := hide (HK7.out.on hb8)
  have HW8 := hide (HW7.out.on hb8)
  have HBO8 := hide (show Calls Tryz.prog 9 #[.slice (some ⟨q8, 0, none⟩) 3 3, .slice (some ⟨w8.heap.size, 0, none⟩) 3 3] (w8.alloc (.cells #[.bool true, .bool false, .bool false] 4)) _ from bools_same (some ⟨q8, 0, none⟩) (some ⟨w8.heap.size, 0, none⟩) 3 3 [true, false, false] (w8.alloc (cellsO [true, false, false])) (((hu8.rd0 hu8.lt).alloc (Nat.le_refl _) _).more (by simp)) (litO1 w8 [true, false, false]).1 (by decide))
  clear x0 x1 x2 x3 l1 hq8 hu8 hb8 HN1
  go_wp2_with fail
  refine HBO8.out.mono ?_; rintro _ w9 ⟨rfl, n9, hw9⟩
  have HK9 : Hid (One w1 #[.slice AT1 gt11a.ts.length cT1, .slice AN1 gt11a.ns.length cN1, .slice AR1 gt11a.rs.length cR1, .int .i64 gt11a.st] w9) := hide (by rw [hw9]; exact (HK8.out.alloc _).drewN _)
  have HW9 : Hid (One w2 #[.slice B0 4 d0, .slice B1 1 d1, .slice B2 2 d2, .int .i64 st2] w9) := hide (by rw [hw9]; exact (HW8.out.alloc _).drewN _)
  clear hw9 HBO8
  obtain ⟨x0, x1, x2, x3⟩ := HY1.out w9 HK9.out
  have l1 : w1.heap.size < w9.heap.size := HK9.out.size
  go_wp2_with fail
  refine (HP1.out w9 HK9.out.below).mono ?_; rintro _ w10 ⟨q10, rfl, hq10, hu10, hb10⟩
  have HK10 := hide (HK9.out.on hb10)
  have HW10 := hide (HW9.out.on hb10)
  have HBO10 := hide (show Calls Tryz.prog 9 #[.slice (some ⟨q10, 0, none⟩) 3 3, .slice (some ⟨w10.heap.size, 0, none⟩) 3 3] (w10.alloc (.cells #[.bool true, .bool false, .bool true] 4)) _ from bools_same (some ⟨q10, 0, none⟩) (some ⟨w10.heap.size, 0, none⟩) 3 3 [true, false, true] (w10.alloc (cellsO [true, false, true])) (((hu10.rd0 hu10.lt).alloc (Nat.le_refl _) _).more (by simp)) (litO1 w10 [true, false, true]).1 (by decide))
  clear x0 x1 x2 x3 l1 hq10 hu10 hb10 HP1
  go_wp2_with fail
  refine HBO10.out.mono ?_; rintro _ w11 ⟨rfl, n11, hw11⟩
  have HK11 : Hid (One w1 #[.slice AT1 gt11a.ts.length cT1, .slice AN1 gt11a.ns.length cN1, .slice AR1 gt11a.rs.length cR1, .int .i64 gt11a.st] w11) := hide (by rw [hw11]; exact (HK10.out.alloc _).drewN _)
  have HW11 : Hid (One w2 #[.slice B0 4 d0, .slice B1 1 d1, .slice B2 2 d2, .int .i64 st2] w11) := hide (by rw [hw11]; exact (HW10.out.alloc _).drewN _)
  clear hw11 HBO10
  obtain ⟨x0, x1, x2, x3⟩ := HY1.out w11 HK11.out
  have l1 : w1.heap.size < w11.heap.size := HK11.out.size
  go_wp2_with fail
  refine (HC1.out w11 HK11.out.below).mono ?_; rintro _ w12 ⟨q12, rfl, hq12, hu12, hb12⟩
  have HK12 := hide (HK11.out.on hb12)
  have HW12 := hide (HW11.out.on hb12)
  have HBO12 := hide (show Calls Tryz.prog 9 #[.slice (some ⟨q12, 0, none⟩) 3 3, .slice (some ⟨w12.heap.size, 0, none⟩) 3 3] (w12.alloc (.cells #[.bool true, .bool false, .bool false] 4)) _ from bools_same (some ⟨q12, 0, none⟩) (some ⟨w12.heap.size, 0, none⟩) 3 3 [true, false, false] (w12.alloc (cellsO [true, false, false])) (((hu12.rd0 hu12.lt).alloc (Nat.le_refl _) _).more (by simp)) (litO1 w12 [true, false, false]).1 (by decide))
  clear x0 x1 x2 x3 l1 hq12 hu12 hb12 HC1
  go_wp2_with fail
  refine HBO12.out.mono ?_; rintro _ w13 ⟨rfl, n13, hw13⟩
  have HK13 : Hid (One w1 #[.slice AT1 gt11a.ts.length cT1, .slice AN1 gt11a.ns.length cN1, .slice AR1 gt11a.rs.length cR1, .int .i64 gt11a.st] w13) := hide (by rw [hw13]; exact (HK12.out.alloc _).drewN _)
  have HW13 : Hid (One w2 #[.slice B0 4 d0, .slice B1 1 d1, .slice B2 2 d2, .int .i64 st2] w13) := hide (by rw [hw13]; exact (HW12.out.alloc _).drewN _)
  clear hw13 HBO12
  obtain ⟨x0, x1, x2, x3⟩ := HY2.out w13 HW13.out
  have l1 : w2.heap.size < w13.heap.size := HW13.out.size
  go_wp2_with fail
  refine (HI2.out w13 HW13.out.below).mono ?_; rintro _ w20 ⟨rfl, hb20⟩
  have HK20 := hide (HK13.out.on hb20)
  clear x0 x1 x2 x3 l1 hb20 HI2
  obtain ⟨x0, x1, x2, x3⟩ := HY1.out w20 HK20.out
  have l1 : w1.heap.size < w20.heap.size := HK20.out.size
  go_wp2_with fail
  refine (HI1.out w20 HK20.out.below).mono ?_; rintro _ w21 ⟨rfl, hb21⟩
  have HK21 := hide (HK20.out.on hb21)
  clear x0 x1 x2 x3 l1 hb21 HI1
  go_wp2
  go_ret
  exact ⟨rfl, HBF.out _ HK21.out⟩
end Go.Proofs.YtfiijndmlmddbaaGreat

namespace Go.Proofs.YtfiijndmlmddbaaGreat
set_option maxRecDepth 100000
open Go.RowKit

theorem not_great11 {G : Gm.Gr} (h : Gm.great G = false) : G.ts.length ≤ 40 ∧ G.ns.length ≤ 40 ∧ G.rs.length ≤ 60 ∧ ∀ r ∈ G.rs, r.r.length ≤ 20 := by
  unfold Gm.great at h
  simp only [Bool.or_eq_false_iff, decide_eq_false_iff_not, List.any_eq_false, decide_eq_true_eq] at h
  obtain ⟨⟨⟨h1, h2⟩, h3⟩, h4⟩ := h
  exact ⟨by omega, by omega, by omega, fun r hr => by have := h4 r hr; omega⟩
end Go.Proofs.YtfiijndmlmddbaaGreat

namespace Go.Proofs.YtfiijndmlmddbaaGreat
set_option maxRecDepth 100000

namespace Gm
/-- The greatest of -1 and what stands there. -/
def mxR (r : List Int) : Int := r.foldl max (-1)
theorem mxR_snoc (r : List Int) (z : Int) : mxR (r ++ [z]) = max (mxR r) z := by simp [mxR]
theorem mx_from : ∀ (r : List Int) (a : Int), a ≤ r.foldl max a ∧ (∀ z ∈ r, z ≤ r.foldl max a) ∧ (r.foldl max a = a ∨ r.foldl max a ∈ r)
  | [], a => ⟨Int.le_refl _, by simp, .inl rfl⟩
  | x :: r, a => by
    obtain ⟨h1, h2, h3⟩ := mx_from r (max a x)
    simp only [List.foldl_cons]
    refine ⟨by omega, fun z hz => ?_, ?_⟩
    · rcases List.mem_cons.1 hz with rfl | hz
      · omega
      · exact h2 z hz
    · rcases h3 with h3 | h3
      · by_cases hax : a ≤ x
        · right; rw [h3, show max a x = x by omega]; exact List.mem_cons_self
        · left; rw [h3]; omega
      · exact .inr (List.mem_cons_of_mem _ h3)
/-- One rule more. -/
def addR (G : Gr) (x : Rl) : Gr := ⟨G.ts, G.ns, G.rs ++ [x], G.st⟩
theorem tops_add {n : Nat} {l : Int} (h0 : 0 ≤ l) (h1 : l < n) : ∀ (ls : List Int) (top : Int), tops n ls top = true → tops n (ls ++ [l]) top = true
  | [], top, h => by
    have ht : top = n - 1 := by simpa [tops] using h
    simp only [List.nil_append, tops]
    rw [if_neg (by omega), if_neg (by omega)]
    simpa using ht
  | k :: ls, top, h => by
    rw [tops] at h
    rw [List.cons_append, tops]
    split at h
    · cases h
    · rename_i hn
      rw [if_neg hn]
      exact tops_add h0 h1 ls _ h
theorem has_iff {G : Gr} {z : Int} : has G z = true ↔ z < G.ts.length ∧ -1 - z < G.ns.length := by
  unfold has
  split
  · simp only [decide_eq_true_eq]; omega
  · simp only [decide_eq_true_eq]; omega
theorem add_ok {G : Gr} (h : Ok G) {l : Int} {r : List Int} (h0 : 0 ≤ l) (h1 : l < G.ns.length) (h40 : G.rs.length < 40) (h6 : r.length ≤ 6) (hh : ∀ z ∈ r, has G z = true) : Ok (addR G ⟨l, r, mxR r⟩) := by
  obtain ⟨m1, m2, m3⟩ := mx_from r (-1)
  refine ⟨h.t, h.n, by simp [addR], by simp [addR]; omega, h.s0, h.s1, fun x hx => ?_, ?_⟩
  · rcases List.mem_append.1 hx with hx | hx
    · exact h.rr x hx
    · rw [List.mem_singleton.1 hx]
      refine rule_of (G := G) ⟨h6, m1, ?_, fun z hz => ?_⟩
      · show mxR r < _
        rcases m3 with m3 | m3
        · unfold mxR; omega
        · exact (has_iff.1 (hh _ m3)).1
      · have := has_iff.1 (hh z hz)
        refine ⟨this.1, this.2, fun hz0 => ?_⟩
        have := m2 z hz
        show mxR r ≠ -1
        unfold mxR; omega
  · show tops G.ns.length ((G.rs ++ [_]).map Rl.l) (-1) = true
    rw [List.map_append]
    exact tops_add h0 h1 _ _ h.tp
theorem add_sub {G : Gr} (x : Rl) : ∀ y ∈ G.rs, y ∈ (addR G x).rs := fun _ hy => List.mem_append_left _ hy
/-- What is so, is so with a rule more. -/
theorem add_rows (G : Gr) (x : Rl) (i : Nat) (hi : i < G.ns.length) :
    ((gn false G.rs G.ns.length).getD i false = true → (gn false (addR G x).rs G.ns.length).getD i false = true) ∧
    ((gn true G.rs G.ns.length).getD i false = true → (gn true (addR G x).rs G.ns.length).getD i false = true) ∧
    ((rc G).getD i false = true → (rc (addR G x)).getD i false = true) ∧
    ((gn false G.rs G.ns.length).getD i false = true → (gn true G.rs G.ns.length).getD i false = true) := by
  rw [gn_at _ _ _ _ hi, gn_at _ _ _ _ hi, gn_at _ _ _ _ hi, gn_at _ _ _ _ hi, rc_at _ _ hi, rc_at _ _ (show i < (addR G x).ns.length from hi)]
  simp only [tr_iff]
  exact ⟨fun h => h.more (add_sub x), fun h => h.more (add_sub x), fun h => h.more (add_sub x) rfl, fun h => h.tms⟩
end Gm
end Go.Proofs.YtfiijndmlmddbaaGreat

namespace Go.Proofs.YtfiijndmlmddbaaGreat
set_option maxRecDepth 100000
open Go.RowKit

set_option maxHeartbeats 8000000 in
theorem rcopy9_own (v : Value) (G : Gm.Gr) (B : Nat) (w : World) (hg : RdGr w B v G) (hB : B ≤ w.heap.size) (ht : G.ts.length ≤ 1000) (hn : G.ns.length ≤ 1000) (hr : G.rs.length ≤ 1000) (hrr : ∀ r ∈ G.rs, r.r.length ≤ 1000) :
    Calls Tryz.prog 18 #[v] w fun e w' => ∃ g, e = .returned g ∧ OwnGr w' w.heap.size g G ∧ Below w.heap.size w w' := by
  obtain ⟨AT, cT, AN, cN, AR, cR, rfl, _, _, _, hT, hN, hR⟩ := hg
  have HR := hide hR
  have HRL := hide (fun (i : Nat) (hi : i < G.rs.length) => hrr _ (List.getElem_mem hi))
  have HLT := hide (And.intro ht (And.intro hn hr))
  obtain ⟨w1, hw1⟩ : ∃ y, y = (w.alloc (.cells #[.slice AT G.ts.length cT, .slice AN G.ns.length cN, .slice AR G.rs.length cR, .int .i64 G.st] 26)).alloc (.cells #[.slice none 0 0, .slice none 0 0, .slice none 0 0, .int .i64 0] 26) := ⟨_, rfl⟩
  have hs1 : w1.heap.size = w.heap.size + 2 := by rw [hw1]; simp
  have HB1 : Hid (Below w.heap.size w w1) := hide (by rw [hw1]; exact ((Below.refl _ w).alloc (Nat.le_refl _) _).alloc (by simp) _)
  have HX1 : Hid (w1.heap[w.heap.size]? = some (.cells #[.slice AT G.ts.length cT, .slice AN G.ns.length cN, .slice AR G.rs.length cR, .int .i64 G.st] 26 (0, 0))) := hide (by rw [hw1, Below.heap_alloc _ _ _ (by simp)]; exact heap_alloc_new w _)
  have HZ1 : Hid (w1.heap[w.heap.size + 1]? = some (.cells #[.slice none 0 0, .slice none 0 0, .slice none 0 0, .int .i64 0] 26 (0, 0))) := hide (by rw [hw1]; have := heap_alloc_new (w.alloc (.cells #[.slice AT G.ts.length cT, .slice AN G.ns.length cN, .slice AR G.rs.length cR, .int .i64 G.st] 26)) (.cells #[.slice none 0 0, .slice none 0 0, .slice none 0 0, .int .i64 0] 26); simpa using this)
  have HTK := hide (fun (x : World) (h : Below w.heap.size w x) => hT.keep (fun g o hg => h.cell (p := ⟨g, o, none⟩) (Nat.lt_of_lt_of_le hg hB)))
  have HNK := hide (fun (x : World) (h : Below w.heap.size w x) => hN.keep (fun g o hg => h.cell (p := ⟨g, o, none⟩) (Nat.lt_of_lt_of_le hg hB)))
  have x0 : w1.cell? ⟨w.heap.size, 0, none⟩ = some (.slice AT G.ts.length cT) := by rw [cell_of_row w1 _ 0 _ _ _ HX1.out]; rfl
  have f0 := frozen_of_row w1 _ 0 _ _ HX1.out
  have HB0 := hide hB
  have HS1 := hide hs1
  have hd1 : w.heap.size + 1 < w1.heap.size := by omega
  have hd0 : w.heap.size < w1.heap.size := by omega
  clear hT hN hR ht hn hr hrr hB hs1
  go_enter Tryz.func18, Tryz.ntmps18
  go_upto_region 1 with fail
  rw [← hw1]
  clear hw1
  go_upto_region 2 with (at_builtin; refine apTs_arm rfl (.tmp 6) (.tmp 8) _ rfl Tryz.underlying22 w1.heap.size _ [] rfl (ownTm_empty w1) B G.ts.length cT AT G.ts rfl rfl (HTK.out _ (HB1.out.alloc HB1.out.size _)) (by have := HLT.out; simp; omega) (by simp) ?_; intro v2 w2 ho2 hg2; obtain ⟨A2, c2, rfl, _, _⟩ := own_form ho2; have hX2 := (row_far (ownTm_empty w1) hg2 hd0 (by simp; omega)).trans ((Below.heap_alloc w1 _ _ hd0).trans HX1.out); have s0 := cell_of_row w2 _ 0 _ _ _ hX2; have s1 := cell_of_row w2 _ 1 _ _ _ hX2; have z0 := frozen_of_row w2 _ 0 _ _ hX2; have z1 := frozen_of_row w2 _ 1 _ _ hX2; have l2 := (Array.getElem?_eq_some_iff.1 hX2).1; have HX2 := hide hX2; have HO2 := hide ho2; have HG2 := hide hg2; clear hX2 ho2 hg2)
  have HXA : Hid ((w2.setCell ⟨w.heap.size, 0, none⟩ (.slice A2 G.ts.length c2)).heap[w.heap.size]? = some (.cells #[.slice A2 G.ts.length c2, .slice AN G.ns.length cN, .slice AR G.rs.length cR, .int .i64 G.st] 26 (0, 0))) := hide (heap_setCell_same w2 _ 0 _ _ _ HX2.out)
  have HZA : Hid ((w2.setCell ⟨w.heap.size, 0, none⟩ (.slice A2 G.ts.length c2)).heap[w.heap.size + 1]? = some (.cells #[.slice none 0 0, .slice none 0 0, .slice none 0 0, .int .i64 0] 26 (0, 0))) := hide ((Below.heap_setCell w2 _ _ _ (by simp only; omega)).trans ((row_far (ownTm_empty w1) HG2.out hd1 (by simp; omega)).trans ((Below.heap_alloc w1 _ _ hd1).trans HZ1.out)))
  have HTA : Hid (OwnTm (w2.setCell ⟨w.heap.size, 0, none⟩ (.slice A2 G.ts.length c2)) w1.heap.size (.slice A2 G.ts.length c2) G.ts) := hide (World.ownsRow.kept HO2.out (only_set (World.grownBy.refl _ _) 0 _) (own_away HO2.out HX2.out (fun cur e => by injection e with _ e; cases e)))
  have HBA : Hid (Below w.heap.size w (w2.setCell ⟨w.heap.size, 0, none⟩ (.slice A2 G.ts.length c2))) := hide (((HB1.out.alloc HB1.out.size _).grown HG2.out (by have := HB1.out.size; simp; omega) (fun k e => by have := (own_holds (ownTm_empty w1) e).1; have := HB1.out.size; omega)).setCell (p := ⟨w.heap.size, 0, none⟩) (Nat.le_refl _) _)
  have HSA : Hid (w1.heap.size ≤ w2.heap.size) := hide (by have := HG2.out.size; simp at this; omega)
  obtain ⟨wa, hwa⟩ : ∃ x, x = w2.setCell ⟨w.heap.size, 0, none⟩ (.slice A2 G.ts.length c2) := ⟨_, rfl⟩
  have hza : wa.heap.size = w2.heap.size := by rw [hwa]; simp
  rw [← hwa] at HXA HZA HTA HBA ⊢
  have HZS := hide hza
  clear hwa hza x0 f0 s0 s1 z0 z1 l2
  have s1 : wa.cell? ⟨w.heap.size, 1, none⟩ = some (.slice AN G.ns.length cN) := by rw [cell_of_row wa _ 1 _ _ _ HXA.out]; rfl
  have la : w.heap.size < wa.heap.size := (Array.getElem?_eq_some_iff.1 HXA.out).1
  go_upto_region 3 with (at_builtin; refine apNs_arm rfl (.tmp 11) (.tmp 13) _ rfl Tryz.underlying23 wa.heap.size _ [] rfl (ownN_empty wa) B G.ns.length cN AN G.ns rfl rfl (HNK.out _ (HBA.out.alloc HBA.out.size _)) (by have := HLT.out; simp; omega) (by simp) ?_; intro v3 w3 ho3 hg3; obtain ⟨A3, c3, rfl, _, _⟩ := own_form ho3; have hX3 := (row_far (ownN_empty wa) hg3 la (by simp; omega)).trans ((Below.heap_alloc wa _ _ la).trans HXA.out); have s1 := cell_of_row w3 _ 1 _ _ _ hX3; have z1 := frozen_of_row w3 _ 1 _ _ hX3; have l3 := (Array.getElem?_eq_some_iff.1 hX3).1; have HX3 := hide hX3; have HO3 := hide ho3; have HG3 := hide hg3; clear hX3 ho3 hg3)
  have HCP : Hid (CpI w (w3.setCell ⟨w.heap.size, 1, none⟩ (.slice A3 G.ns.length c3)) w.heap.size #[.slice A2 G.ts.length c2, .slice A3 G.ns.length c3, .slice AR G.rs.length cR, .int .i64 G.st] (.slice A2 G.ts.length c2) (.slice A3 G.ns.length c3) (.slice none 0 0) G.ts G.ns []) := hide (by
    have hws : w.heap.size ≤ w1.heap.size := HB1.out.size
    have hsa : w.heap.size ≤ wa.heap.size := by have := HSA.out; have := HZS.out; omega
    have ht1 : OwnTm (wa.alloc (.cells #[] 9)) w1.heap.size (.slice A2 G.ts.length c2) G.ts := World.ownsRow.alloc HTA.out _
    have ht2 : OwnTm w3 w1.heap.size (.slice A2 G.ts.length c2) G.ts := World.ownsRow.kept ht1 HG3.out (other_row ht1 (ownN_empty wa) (by decide))
    have hb3 : Below w.heap.size w w3 := (HBA.out.alloc HBA.out.size _).grown HG3.out (by simp; omega) (fun k e => by have := (own_holds (ownN_empty wa) e).1; omega)
    have hla : w.heap.size + 1 < wa.heap.size := by have := HSA.out; have := HZS.out; omega
    have hz3 := (row_far (ownN_empty wa) HG3.out hla (by simp; omega)).trans ((Below.heap_alloc wa _ _ hla).trans HZA.out)
    have hset : w3.grownBy (w3.setCell ⟨w.heap.size, 1, none⟩ (.slice A3 G.ns.length c3)) (some w.heap.size) := only_set (World.grownBy.refl _ _) 1 _
    refine ⟨heap_setCell_same w3 _ 1 _ _ _ HX3.out, (Below.heap_setCell w3 _ _ _ (by simp only; omega)).trans hz3, own_less (World.ownsRow.kept ht2 hset (own_away ht2 HX3.out (fun cur e => by injection e with _ e; cases e))) hws, own_less (World.ownsRow.kept HO3.out hset (own_away HO3.out HX3.out (fun cur e => by injection e with _ e; cases e))) hsa, OwnRl.nil _ _ _, hb3.setCell (p := ⟨w.heap.size, 1, none⟩) (Nat.le_refl _) _, ?_⟩
    have := (Array.getElem?_eq_some_iff.1 hz3).1
    simp
    omega)
  obtain ⟨wb, hwb⟩ : ∃ x, x = w3.setCell ⟨w.heap.size, 1, none⟩ (.slice A3 G.ns.length c3) := ⟨_, rfl⟩
  rw [← hwb] at HCP ⊢
  obtain ⟨n, hn⟩ : ∃ n, n = w.heap.size := ⟨_, rfl⟩
  have HNN := hide hn
  rw [← hn] at HCP HB0 ⊢
  clear hwb hn s1 z1 l3 la hd0 hd1 HX3 HO3 HG3 HXA HZA HTA HBA HSA HZS HX1 HZ1 HTK HNK HS1 HB1
  obtain ⟨vT, hvT⟩ : ∃ v, v = Value.slice A2 G.ts.length c2 := ⟨_, rfl⟩
  obtain ⟨vN, hvN⟩ : ∃ v, v = Value.slice A3 G.ns.length c3 := ⟨_, rfl⟩
  rw [← hvT, ← hvN] at HCP ⊢
  clear hvT hvN
  go_wp2
  go_loopw [3, 4] (fun vl vi wr => ∃ (i : Nat), i ≤ G.rs.length ∧ vi = .int .i64 i ∧ Hid (CpI w wr n #[vT, vN, .slice AR G.rs.length cR, .int .i64 G.st] vT vN vl G.ts G.ns (G.rs.take i))) (fun _ vi _ => G.rs.length - (intOf vi).toNat)
  case atStart => exact ⟨0, Nat.zero_le _, rfl, HCP⟩
  case round =>
    clear HCP
    obtain ⟨i, hi, rfl, HC⟩ := hrel
    obtain ⟨A4, c4, hv4, _, _⟩ := ownrl_form HC.out.r
    rw [show (G.rs.take i).length = i by rw [List.length_take]; omega] at hv4
    subst hv4
    have c2 : wr.cell? ⟨n, 2, none⟩ = some (.slice AR G.rs.length cR) := by rw [cell_of_row wr _ 2 _ _ _ HC.out.b]; rfl
    have ln := (Array.getElem?_eq_some_iff.1 HC.out.b).1
    by_cases hlt : i < G.rs.length
    · obtain ⟨g, o, rfl, hgB, hc⟩ := HR.out (by omega)
      obtain ⟨k0, ⟨A', c', k1, q1, q2, hri⟩, k2⟩ := hc i hlt
      have hgn : g < n := by have := HB0.out; omega
      have k0 := (HC.out.w.cell (p := ⟨g, o + i * 3, none⟩) hgn).trans k0
      have k1 := (HC.out.w.cell (p := ⟨g, o + i * 3 + 1, none⟩) hgn).trans k1
      have k2 := (HC.out.w.cell (p := ⟨g, o + i * 3 + 2, none⟩) hgn).trans k2
      have hgs : g < wr.heap.size := by omega
      have hrl := HRL.out i hlt
      have HTN := hide (List.take_succ_eq_append_getElem hlt)
      have HCY := hide (fun (x : World) (h : Below n w x) => rcopy3_any A' c' B G.rs[i].r x (fun hn => by
        obtain ⟨g, o', e, hg, hc⟩ := hri hn
        exact ⟨g, o', e, hg, fun j hj => (h.cell (p := ⟨g, o' + j, none⟩) (Nat.lt_of_lt_of_le hg HB0.out)).trans (hc j hj)⟩) (Nat.le_trans HB0.out (by have := h.size; have := HNN.out; omega)) (by omega))
      clear hc hri q1 q2
      generalize G.rs[i] = r at *
      rcases r with ⟨l, zs, p⟩
      simp only at k0 k1 k2 hrl HCY
      have HC1 := hide (HC.out.alloc (.cells #[.int .i64 l, .slice A' zs.length c', .int .i64 p] 40))
      have HD1 := hide (heap_alloc_new wr (.cells #[.int .i64 l, .slice A' zs.length c', .int .i64 p] 40))
      have HCC := hide (HCY.out _ HC1.out.w)
      go_wp2_with fail
      refine HCC.out.mono ?_; rintro _ w2 ⟨vi, rfl, hoi, hb2⟩
      have hD2 := (hb2.block wr.heap.size (by simp)).trans HD1.out
      have hbr : Below wr.heap.size wr w2 := ((Below.refl _ wr).alloc (Nat.le_refl _) _).trans (hb2.mono (by simp))
      obtain ⟨Ai, ci, rfl, r1, r2, hrow⟩ := hoi.row (B := n) (by have := HC.out.s; simp; omega)
      have d1 := cell_of_row w2 _ 1 _ _ _ hD2
      have d0 : w2.cell? ⟨wr.heap.size, 0, none⟩ = some (.int .i64 l) := by rw [cell_of_row w2 _ 0 _ _ _ hD2]; rfl
      have d2 : w2.cell? ⟨wr.heap.size, 2, none⟩ = some (.int .i64 p) := by rw [cell_of_row w2 _ 2 _ _ _ hD2]; rfl
      have f1 := frozen_of_row w2 _ 1 _ _ hD2
      have ld := (Array.getElem?_eq_some_iff.1 hD2).1
      have HC3 := hide (HC.out.young (D := wr.heap.size) (j := 1) (u := .slice Ai zs.length ci) (Nat.le_refl _) hbr)
      have HR3 : Hid (RowI (w2.setCell ⟨wr.heap.size, 1, none⟩ (.slice Ai zs.length ci)) n (w2.setCell ⟨wr.heap.size, 1, none⟩ (.slice Ai zs.length ci)).heap.size Ai zs) := hide ((hrow.grown (only_set (World.grownBy.refl w2 (some wr.heap.size)) 1 (.slice Ai zs.length ci)) (fun g e => by injection e with e; subst e; exact .inl (cells_ne hD2 (by decide)))).more (by simp))
      have HC4 := hide (HC3.out.alloc (.cells #[.int .i64 l, .slice Ai zs.length ci, .int .i64 p] 40))
      have HR4 := hide ((HR3.out.grown (World.grownBy_alloc _ (.cells #[.int .i64 l, .slice Ai zs.length ci, .int .i64 p] 40) none) (fun g e => by cases e)).more (show (w2.setCell ⟨wr.heap.size, 1, none⟩ (.slice Ai zs.length ci)).heap.size ≤ ((w2.setCell ⟨wr.heap.size, 1, none⟩ (.slice Ai zs.length ci)).alloc (.cells #[.int .i64 l, .slice Ai zs.length ci, .int .i64 p] 40)).heap.size by simp))
      have HNC : Hid (∀ j u, (rlC (⟨l, zs, p⟩, Ai, ci))[j]? = some u → ((w2.setCell ⟨wr.heap.size, 1, none⟩ (.slice Ai zs.length ci)).alloc (.cells #[.int .i64 l, .slice Ai zs.length ci, .int .i64 p] 40)).cell? ⟨w2.heap.size, j, none⟩ = some u) := hide (fun j u hj => by
        have h := new_cells (w2.setCell ⟨wr.heap.size, 1, none⟩ (.slice Ai zs.length ci)) (rlC (⟨l, zs, p⟩, Ai, ci)) 40 j
        rw [show (w2.setCell ⟨wr.heap.size, 1, none⟩ (.slice Ai zs.length ci)).heap.size = w2.heap.size by simp] at h
        exact h.trans hj)
      have HR12 := hide (And.intro r1 r2)
      clear hoi hb2 hbr hrow hD2
      go_wp2_with (at_builtin; (go_loud (refine apRl_arm rfl (.tmp 32) (.tmp 34) _ rfl Tryz.underlying24 n _ (.slice A4 i c4) (G.rs.take i) rfl HC4.out.r _ _ (⟨l, zs, p⟩, Ai, ci) rfl HNC.out ⟨HR12.out.1, HR12.out.2, HR4.out⟩ (by have := HLT.out; rw [List.length_take]; omega) (by have := HC4.out.s; omega) (Nat.le_refl _) ?_)); intro v5 w5 ho5 hg5; have HC5 := hide (HC4.out.put ho5 hg5); clear ho5 hg5)
      go_roundw
      case rel => exact ⟨i + 1, hlt, by go_num, by rw [HTN.out]; exact HC5⟩
      case measure => simp [intOf]; omega
    · obtain rfl : i = G.rs.length := by omega
      rw [List.take_length] at HC
      obtain ⟨AT5, cT5, rfl, _, _⟩ := own_form HC.out.t
      obtain ⟨AN5, cN5, rfl, _, _⟩ := own_form HC.out.nn
      have c0 : wr.cell? ⟨n, 0, none⟩ = some (.slice AT5 G.ts.length cT5) := by rw [cell_of_row wr _ 0 _ _ _ HC.out.b]; rfl
      have c1 : wr.cell? ⟨n, 1, none⟩ = some (.slice AN5 G.ns.length cN5) := by rw [cell_of_row wr _ 1 _ _ _ HC.out.b]; rfl
      have c3 : wr.cell? ⟨n, 3, none⟩ = some (.int .i64 G.st) := by rw [cell_of_row wr _ 3 _ _ _ HC.out.b]; rfl
      have f2 := frozen_of_row wr _ 2 _ _ HC.out.b
      have g0 : wr.cell? ⟨n + 1, 0, none⟩ = some (.slice none 0 0) := by rw [cell_of_row wr _ 0 _ _ _ HC.out.z]; rfl
      have g1 : wr.cell? ⟨n + 1, 1, none⟩ = some (.slice none 0 0) := by rw [cell_of_row wr _ 1 _ _ _ HC.out.z]; rfl
      have g2 : wr.cell? ⟨n + 1, 2, none⟩ = some (.slice none 0 0) := by rw [cell_of_row wr _ 2 _ _ _ HC.out.z]; rfl
      have g3 : wr.cell? ⟨n + 1, 3, none⟩ = some (.int .i64 0) := by rw [cell_of_row wr _ 3 _ _ _ HC.out.z]; rfl
      have e0 := frozen_of_row wr _ 0 _ _ HC.out.z
      have e1 := frozen_of_row wr _ 1 _ _ HC.out.z
      have e2 := frozen_of_row wr _ 2 _ _ HC.out.z
      have e3 := frozen_of_row wr _ 3 _ _ HC.out.z
      have lz := (Array.getElem?_eq_some_iff.1 HC.out.z).1
      have HGX : Hid (Gx wr n (.slice AT5 G.ts.length cT5) (.slice AN5 G.ns.length cN5) (.slice A4 G.rs.length c4) G.ts G.ns G.rs) := hide ⟨⟨_, HC.out.b⟩, ⟨_, HC.out.z⟩, HC.out.t, HC.out.nn, HC.out.r⟩
      have HGF := hide (fun u0 u1 u2 u3 u4 => ((((HGX.out.set n 2 u0 (.inl rfl)).set (n + 1) 0 u1 (.inr rfl)).set (n + 1) 1 u2 (.inr rfl)).set (n + 1) 2 u3 (.inr rfl)).set (n + 1) 3 u4 (.inr rfl))
      have HBF := hide (fun u0 u1 u2 u3 u4 => ((((HC.out.w.setCell (p := ⟨n, 2, none⟩) (Nat.le_refl _) u0).setCell (p := ⟨n + 1, 0, none⟩) (by simp only; omega) u1).setCell (p := ⟨n + 1, 1, none⟩) (by simp only; omega) u2).setCell (p := ⟨n + 1, 2, none⟩) (by simp only; omega) u3).setCell (p := ⟨n + 1, 3, none⟩) (by simp only; omega) u4)
      clear HGX
      go_wp2
      refine bodyPost_ret (v := .agg #[.slice AT5 G.ts.length cT5, .slice AN5 G.ns.length cN5, .slice A4 G.rs.length c4, .int .i64 G.st]) (by simp [results, Tryz.results18, go_sem, g0, g1, g2, g3]) rfl ?_
      rw [← HNN.out]
      refine ⟨_, rfl, ⟨_, _, _, rfl, ?_, ?_, ?_⟩, HBF.out _ _ _ _ _⟩
      · exact (HGF.out _ _ _ _ _).t
      · exact (HGF.out _ _ _ _ _).nn
      · exact (HGF.out _ _ _ _ _).r
end Go.Proofs.YtfiijndmlmddbaaGreat
