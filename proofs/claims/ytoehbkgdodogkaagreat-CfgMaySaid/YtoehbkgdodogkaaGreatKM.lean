/- The walk of the statement of grammars that are read, over this program. -/
import Derived.Test.YtoehbkgdodogkaaGreatKK
import Derived.Test.YtoehbkgdodogkaaGreatKD
import Derived.IntWalk
namespace Go.Proofs.YtoehbkgdodogkaaGreat
set_option maxRecDepth 100000
open Go.RowKit

theorem may_long (A : Option Addr) (c n : Nat) (w : World) (hm : ML w) (h : (n : Int) > 2000) :
    Calls Tryz.prog 4 #[.slice A n c] w fun e w' => e = .returned (.bool true) ∧ Below w.heap.size w w' := by
  have HA := hide (alive9_any w hm)
  clear hm
  go_enter Tryz.func4, Tryz.ntmps4
  go_wp2_with fail
  refine HA.out.mono ?_; rintro _ w1 ⟨rfl, hb⟩
  have HB := hide hb
  clear hb
  go_wp2
  go_ret
  exact ⟨rfl, HB.out⟩
theorem may_wrong (A : Option Addr) (c n : Nat) (w : World) (hm : ML w) (hn : n ≤ 2000)
    (hp : ∀ w1 : World, Below w.heap.size w w1 → Calls Tryz.prog 15 #[.slice A n c] w1 fun e w' => (∃ X Y d, d ≠ 0 ∧ e = .returned (.tuple #[.agg #[.slice none 0 0, .slice none 0 0, .slice none 0 0, .int .i64 0], .complex .f64 X Y, .int .i64 d])) ∧ Below w1.heap.size w1 w') :
    Calls Tryz.prog 4 #[.slice A n c] w fun e w' => e = .returned (.bool true) ∧ Below w.heap.size w w' := by
  have HA := hide (alive9_any w hm)
  have HP := hide hp
  have h4 : ¬ (n : Int) > 2000 := by omega
  clear hm hp
  go_enter Tryz.func4, Tryz.ntmps4
  go_wp2_with fail
  refine HA.out.mono ?_; rintro _ w1 ⟨rfl, hb⟩
  have HB := hide hb
  clear hb
  go_wp2_with fail
  refine (HP.out _ HB.out).mono ?_; rintro _ w2 ⟨⟨X, Y, d, hd, rfl⟩, hb2⟩
  have hd0 : (d != 0) = true := by simpa using hd
  have HB2 := hide (HB.out.trans (hb2.mono HB.out.size))
  have HBA := hide (fun o => HB2.out.alloc HB2.out.size o)
  clear hb2 hd
  go_wp2
  go_ret
  exact ⟨rfl, HBA.out _⟩
theorem name_tx {G : Gm.Gr} (hf : Gm.Fit G) (z : Int) : K.Tx (Gm.name G z) := by
  have h0 : K.Tx [] := ⟨fun _ h => by simp at h, by simp⟩
  have hg : ∀ (l : List (List Int)) (i : Nat), (∀ x ∈ l, K.Tx x) → K.Tx (l.getD i []) := fun l i h => by
    rw [List.getD_eq_getElem?_getD]
    rcases hq : l[i]? with _ | x
    · exact h0
    · obtain ⟨hi, rfl⟩ := List.getElem?_eq_some_iff.1 hq
      exact h _ (List.getElem_mem hi)
  unfold Gm.name
  split
  · split
    · refine hg _ _ fun x hx => ?_
      obtain ⟨t, ht, rfl⟩ := List.mem_map.1 hx
      exact (hf.t t ht).1
    · exact hg _ _ fun x hx => hf.n x hx
  · exact h0

set_option maxHeartbeats 4000000 in
theorem may_right (A : Option Addr) (c n : Nat) (G : Gm.Gr) (w : World) (hm : ML w) (hn : n ≤ 2000) (hG : Gm.Built G) (hln : G.ns.length ≤ 1000000) (hlt : G.ts.length ≤ 1000000)
    (hp : ∀ w1 : World, Below w.heap.size w w1 → Calls Tryz.prog 15 #[.slice A n c] w1 fun e w' => (∃ v, e = .returned (.tuple #[v, .complex .f64 0 0, .int .i64 0]) ∧ RdGr w' w'.heap.size v G) ∧ Below w1.heap.size w1 w') :
    Calls Tryz.prog 4 #[.slice A n c] w fun e w' => e = .returned (.bool true) ∧ Below w.heap.size w w' := by
  have HA := hide (alive9_any w hm)
  have HP := hide hp
  have h4 : ¬ (n : Int) > 2000 := by omega
  have HFT := hide hG.t
  have HLK := hide (fun z h => hG.f z h)
  have HRT := hide hG.r
  have Q0 : ∀ w : World, (binOp BinOp.neq 34 (.complex .f64 0 0) (.complex .f64 0 0)).run Tryz.prog w = .ok (.bool false) w := fun _ => by kernel_rfl
  clear hm hp hG
  go_enter Tryz.func4, Tryz.ntmps4
  go_wp2_with fail
  refine HA.out.mono ?_; rintro _ w1 ⟨rfl, hb⟩
  have HB := hide hb
  clear hb
  go_wp2_with fail
  refine (HP.out _ HB.out).mono ?_; rintro _ w2 ⟨⟨v, rfl, hg⟩, hb2⟩
  have HB2 := hide (HB.out.trans (hb2.mono HB.out.size))
  have HG0 := hide hg
  obtain ⟨AT, cT, AN, cN, AR, cR, rfl, _, _, _, _, _, _⟩ := hg
  have HG := hide (fun (x : World) (h : Below w2.heap.size w2 x) => HG0.out.below h (Nat.le_refl _))
  have TRR := hide (fun (x : World) (h : Below w2.heap.size w2 x) => rright_any _ G w2.heap.size x (HG.out x h) HFT.out h.size)
  have TR := hide (fun (x : World) (h : Below w2.heap.size w2 x) => gright_any _ G w2.heap.size x (HG.out x h) HFT.out h.size)
  rw [HRT.out] at TR TRR
  have TN := hide (fun (z : Int) (hz : Gm.In z) (x : World) (h : Below w2.heap.size w2 x) => gname_any _ G w2.heap.size z hz x (HG.out x h) h.size)
  have TF := hide (fun (z : Int) (hz : Gm.Sy G.ts.length G.ns.length z) (x : World) (h : Below w2.heap.size w2 x) => (by
    have := gfind_any _ G (Gm.name G z) w2.heap.size x (HG.out x h) HFT.out (name_tx HFT.out z) h.size hln
    rw [HLK.out z hz] at this
    exact this : Calls Tryz.prog 16 #[.agg #[.slice AT G.ts.length cT, .slice AN G.ns.length cN, .slice AR G.rs.length cR, .int .i64 G.st], .string (K.str (Gm.name G z))] x fun e w' => e = .returned (.tuple #[.int .i64 z, .bool true]) ∧ Below x.heap.size x w'))
  have HW2 := hide (fun o => (Below.refl w2.heap.size w2).alloc (Nat.le_refl _) o)
  have hnb := heap_alloc_new w2 (.cells #[.slice AT G.ts.length cT, .slice AN G.ns.length cN, .slice AR G.rs.length cR, .int .i64 G.st] 26)
  have HNB := hide hnb
  clear hb2 hnb HG0
  generalize G.ts.length = nT at *
  generalize G.ns.length = nN at *
  generalize G.rs.length = nR at *
  generalize G.st = st at *
  go_wp2_with fail
  refine (TRR.out _ (HW2.out _)).mono ?_; rintro _ w3 ⟨rfl, hb3⟩
  have h3 := (hb3.block w2.heap.size (by simp)).trans HNB.out
  have HB3 := hide ((HW2.out _).trans (hb3.mono (HW2.out _).size))
  have e0 := cell_of_row w3 _ 0 _ _ _ h3
  have e1 := cell_of_row w3 _ 1 _ _ _ h3
  have e2 := cell_of_row w3 _ 2 _ _ _ h3
  have e3 := cell_of_row w3 _ 3 _ _ _ h3
  clear hb3
  go_wp2_with fail
  refine (TR.out _ HB3.out).mono ?_; rintro _ w4 ⟨rfl, hb4⟩
  have h4b := (hb4.block w2.heap.size (Array.getElem?_eq_some_iff.1 h3).1).trans h3
  have HB4 := hide (HB3.out.trans (hb4.mono HB3.out.size))
  have HNB4 := hide h4b
  have e0 := cell_of_row w4 _ 0 _ _ _ h4b
  have e1 := cell_of_row w4 _ 1 _ _ _ h4b
  have hb4s := (Array.getElem?_eq_some_iff.1 h4b).1
  have hneg : IntKind.i64.wrap (-(nN : Int)) = -(nN : Int) := IntWalk.i64_in _ (by omega)
  clear hb4 h3 h4b
  go_wp2
  go_loopw [6] (fun vi wr => ∃ z : Int, vi = .int .i64 z ∧ -(nN : Int) ≤ z ∧ (z ≤ nT ∨ z = -(nN : Int)) ∧ Hid (Below w4.heap.size w4 wr)) (fun vi _ => (nT - intOf vi).toNat)
  case atStart => exact ⟨_, by first | rfl | rw [hneg], Int.le_refl _, .inr rfl, hide (Below.refl _ _)⟩
  case round =>
    clear e0 e1
    obtain ⟨z, rfl, hz1, hz2, HBW⟩ := hrel
    have hrb := (HBW.out.block w2.heap.size hb4s).trans HNB4.out
    have HRB := hide hrb
    have e0 := cell_of_row wr _ 0 _ _ _ hrb
    have hrs := (Array.getElem?_eq_some_iff.1 hrb).1
    clear hrb
    by_cases hlt : z < nT
    · have C0 : ∀ y : Calm.On wr.heap.size wr, y.1.cell? ⟨w2.heap.size, 0, none⟩ = some (.slice AT nT cT) := fun y => cell_of_row y.1 _ 0 _ _ _ ((y.2.block _ hrs).trans HRB.out)
      have C1 : ∀ y : Calm.On wr.heap.size wr, y.1.cell? ⟨w2.heap.size, 1, none⟩ = some (.slice AN nN cN) := fun y => cell_of_row y.1 _ 1 _ _ _ ((y.2.block _ hrs).trans HRB.out)
      have C2 : ∀ y : Calm.On wr.heap.size wr, y.1.cell? ⟨w2.heap.size, 2, none⟩ = some (.slice AR nR cR) := fun y => cell_of_row y.1 _ 2 _ _ _ ((y.2.block _ hrs).trans HRB.out)
      have C3 : ∀ y : Calm.On wr.heap.size wr, y.1.cell? ⟨w2.heap.size, 3, none⟩ = some (.int .i64 st) := fun y => cell_of_row y.1 _ 3 _ _ _ ((y.2.block _ hrs).trans HRB.out)
      have HWD : Hid (Below wr.heap.size wr wr.drew) := hide (below_drewN (Below.refl wr.heap.size wr) 1)
      have HWW : Hid (Below w2.heap.size w2 wr) := hide (HB4.out.trans (HBW.out.mono HB4.out.size))
      have HN1 := hide (TN.out z ⟨by omega, by omega⟩ wr.drew (below_drewN HWW.out 1))
      have HF1 := hide (fun (x : World) (h : Below wr.heap.size wr x) => TF.out z ⟨hlt, by omega⟩ x (HWW.out.trans (h.mono HWW.out.size)))
      generalize K.str (Gm.name G z) = sz at *
      go_upto_region 13 with fail
      refine CalmN.region_tree (fun x => ∃ y : Calm.On wr.heap.size wr, x = y.1) (.one [0, 1, 2] 3 (.one [] 4 (.fin [5, 6, 7, 8, 9]))) (by kernel_rfl) (by kernel_rfl) (fun _ _ d _ _ h => by cases d <;> exact h) ⟨⟨wr.drew, HWD.out⟩, rfl⟩ ?_
      simp only [CalmN.wpT, CalmN.wpSt, CalmN.pickOps, List.getElem?_toArray, List.getElem?_cons_zero, List.getElem?_cons_succ]
      repeat (go_big_quiet_step (fail))
      refine wpQuiet_nil ?_
      intro KK hKK
      rw [if_pos (by rfl)]
      go_wp2_with fail
      refine HN1.out.mono ?_; rintro _ w5 ⟨rfl, hb5⟩
      have HB5 := hide (HWD.out.trans (hb5.mono HWD.out.size))
      clear hb5
      go_wp2_with fail
      refine hKK _ _ ⟨⟨_, HB5.out⟩, rfl⟩ (fun x => ∃ y : Calm.On wr.heap.size wr, x = y.1) (fun _ h => h) ⟨⟨_, HB5.out⟩, rfl⟩ ?_
      refine wpQuiet_nil ?_
      intro KK hKK
      rw [if_pos (by rfl)]
      go_wp2_with fail
      refine (HF1.out _ HB5.out).mono ?_; rintro _ w6 ⟨rfl, hb6⟩
      have HB6 := hide (HB5.out.trans (hb6.mono HB5.out.size))
      clear hb6
      go_wp2_with fail
      refine hKK _ _ ⟨⟨_, HB6.out⟩, rfl⟩ (fun x => ∃ y : Calm.On wr.heap.size wr, x = y.1) (fun _ h => h) ⟨⟨_, HB6.out⟩, rfl⟩ ?_
      repeat (go_big_quiet_step (fail))
      refine wpQuiet_nil ?_
      clear C0 C1 C2 C3 hKK
      go_wp2
      go_roundw
      case rel => exact ⟨z + 1, by go_num, by omega, by omega, hide (HBW.out.trans (HB6.out.mono HBW.out.size))⟩
      case measure => simp [intOf]; omega
    · go_wp2
      go_ret
      exact ⟨rfl, HB2.out.trans ((HB4.out.trans (HBW.out.mono HB4.out.size)).mono HB2.out.size)⟩
theorem cfgMay_walk (A : Option Addr) (c : Nat) (L : List Int) (w : World) (hr : RdB w w.heap.size A L) (hl : K.Bytes L) (hc : L.length ≤ c) (hm : ML w) :
    Calls Tryz.prog 4 #[.slice A L.length c] w fun e w' => e = .returned (.bool true) ∧ Below w.heap.size w w' := by
  by_cases h4 : (L.length : Int) > 2000
  · exact may_long A c L.length w hm h4
  have hn : L.length ≤ 2000 := by omega
  have hR := fun (w1 : World) (h1 : Below w.heap.size w w1) => read_any A c L w1 (hr.up h1) hl hc (by omega) (hm.up h1)
  unfold ReadAns at hR
  rcases hq : rd L with _ | r
  · rw [hq] at hR
    refine may_wrong A c L.length w hm hn fun w1 h1 => (hR w1 h1).mono fun e w' h => ⟨h.1, h.2⟩
  · rw [hq] at hR
    rcases r with G | ⟨y, er⟩
    · have hB := rd_built hl hq
      have hr := hB.r
      unfold Gm.right Gm.terms Gm.nons at hr
      simp only [Bool.and_eq_true, decide_eq_true_eq] at hr
      obtain ⟨⟨⟨⟨⟨⟨⟨q1, _⟩, ⟨⟨_, q2⟩, _⟩⟩, _⟩, _⟩, _⟩, _⟩, _⟩ := hr
      refine may_right A c L.length G w hm hn hB (by omega) (by omega) fun w1 h1 => (hR w1 h1).mono fun e w' h => ?_
      obtain ⟨⟨v, he, hg⟩, hb⟩ := h
      exact ⟨⟨v, he, hg.rd⟩, hb⟩
    · refine may_wrong A c L.length w hm hn fun w1 h1 => (hR w1 h1).mono fun e w' h => ?_
      obtain ⟨⟨he, h2⟩, hb⟩ := h
      exact ⟨⟨_, _, er, he, h2⟩, hb⟩
end Go.Proofs.YtoehbkgdodogkaaGreat
