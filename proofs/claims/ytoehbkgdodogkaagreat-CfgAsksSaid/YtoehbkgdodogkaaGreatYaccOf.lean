/- Contracts of yacc's ours, of the deferred function (recover), of Of, over this program. -/
import Derived.Test.YtoehbkgdodogkaaGreatYaccSource
import Derived.Defers
import Derived.Recover
namespace Go.Proofs.YtoehbkgdodogkaaGreat
set_option maxRecDepth 100000
open Go.RowKit

theorem assert_none (w : World) : (Instr.typeAssert .nilIface 20 92 true).run Tryz.prog w = .ok (.tuple #[.agg #[.complex .f64 0 0, .int .i64 0], .bool false]) w := by kernel_rfl
theorem assert_wrong (X Y : Nat) (e : Int) (w : World) : (Instr.typeAssert (.iface 92 (.agg #[.complex .f64 X Y, .int .i64 e])) 20 92 true).run Tryz.prog w = .ok (.tuple #[.agg #[.complex .f64 X Y, .int .i64 e], .bool true]) w := by kernel_rfl
theorem ours_none (w : World) : Calls Tryz.prog 61 #[.nilIface] w fun e w' => e = .returned (.agg #[.complex .f64 0 0, .int .i64 0]) ∧ Below w.heap.size w w' := by
  have HB := hide (fun o => ((Below.refl w.heap.size w).alloc (Nat.le_refl _) o))
  have SC := fun a w m X Y => show (store a (.complex .f64 X Y) m).run Tryz.prog w = stored Tryz.prog w a (.complex .f64 X Y) m from run_store _ w a _ m rfl
  have T0 := assert_none
  have T1 := assert_wrong
  have hnil : ∀ w : World, (binOp BinOp.neq 20 .nilIface .nilIface).run Tryz.prog w = .ok (.bool false) w := fun _ => by kernel_rfl
  go_enter Tryz.func61, Tryz.ntmps61
  go_wp2
  exact bodyPost_ret (v := .agg #[.complex .f64 0 0, .int .i64 0]) (by simp [results, Tryz.results61, go_sem]) rfl ⟨rfl, (HB.out _).alloc (by simp) _⟩
theorem ours_wrong (X Y : Nat) (e : Int) (w : World) : Calls Tryz.prog 61 #[.iface 92 (.agg #[.complex .f64 X Y, .int .i64 e])] w fun e' w' => e' = .returned (.agg #[.complex .f64 X Y, .int .i64 e]) ∧ Below w.heap.size w w' := by
  have HB := hide (fun o => ((Below.refl w.heap.size w).alloc (Nat.le_refl _) o))
  have SC := fun a w m X Y => show (store a (.complex .f64 X Y) m).run Tryz.prog w = stored Tryz.prog w a (.complex .f64 X Y) m from run_store _ w a _ m rfl
  have T0 := assert_none
  have T1 := assert_wrong
  have hnil : ∀ w : World, (binOp BinOp.neq 20 .nilIface .nilIface).run Tryz.prog w = .ok (.bool false) w := fun _ => by kernel_rfl
  go_enter Tryz.func61, Tryz.ntmps61
  go_wp2
  exact bodyPost_ret (v := .agg #[.complex .f64 X Y, .int .i64 e]) (by simp [results, Tryz.results61, go_sem]) rfl ⟨rfl, (HB.out _).alloc (by simp) _⟩

theorem catch_idle (p4 p5 p6 : Addr) (w : World) :
    CallsD Tryz.prog 60 #[.pointer (some p4), .pointer (some p5), .pointer (some p6)] .returning w fun e u' w' => e = .returned (.tuple #[]) ∧ u' = .returning ∧ Below w.heap.size w w' := by
  have SC := fun a w m X Y => show (store a (.complex .f64 X Y) m).run Tryz.prog w = stored Tryz.prog w a (.complex .f64 X Y) m from run_store _ w a _ m rfl
  have HO := hide (ours_none w)
  refine callsD_of_wpS Tryz.func60 rfl fun c₀ cs hu => ?_
  apply wpS_seq
  apply wpS_region
  simp [wpOpsS, go_sem, recoverD, hu, Tryz.ntmps60, Exit.thenS]
  refine HO.out.mono ?_; rintro _ w2 ⟨rfl, hb⟩
  have HB := hide hb
  clear hb HO
  simp [go_sem, SC]
  refine wpS_of_wp ?_
  go_wp2
  exact ⟨rfl, .returning, by cases c₀; simp_all, .tuple #[], by simp [results, Tryz.results60], rfl, rfl, HB.out.alloc HB.out.size _⟩

theorem frame14 (p q r a b c d e f : Value) : #[p, q, r] ++ ((((((Array.replicate 11 undef).setIfInBounds 1 a).setIfInBounds 2 b).setIfInBounds 0 c).setIfInBounds 3 d).setIfInBounds 4 e).setIfInBounds 5 f = #[p, q, r, c, a, b, d, e, f, undef, undef, undef, undef, undef] := by
  kernel_rfl

set_option maxHeartbeats 2000000 in
theorem catch_wrong (b4 X Y : Nat) (e : Int) (he : e ≠ 0) (x y z u : Value) (older : List PanicEntry) (w : World) (h4 : w.heap[b4]? = some (.cells #[x, y] 57 (0, 0))) (h5 : w.heap[b4 + 1]? = some (.cells #[z] 34 (0, 0))) (h6 : w.heap[b4 + 2]? = some (.cells #[u] 35 (0, 0))) :
    CallsD Tryz.prog 60 #[.pointer (some ⟨b4, 0, none⟩), .pointer (some ⟨b4 + 1, 0, none⟩), .pointer (some ⟨b4 + 2, 0, none⟩)] (.panicking ({ v := .iface 92 (.agg #[.complex .f64 X Y, .int .i64 e]), recovered := false } :: older)) w fun e' u' w' =>
      e' = .returned (.tuple #[]) ∧ u' = .panicking ({ v := .iface 92 (.agg #[.complex .f64 X Y, .int .i64 e]), recovered := true } :: older) ∧ Below b4 w w' ∧
      w'.heap[b4]? = some (.cells #[.slice none 0 0, .slice none 0 0] 57 (0, 0)) ∧ w'.heap[b4 + 1]? = some (.cells #[.complex .f64 X Y] 34 (0, 0)) ∧ w'.heap[b4 + 2]? = some (.cells #[.int .i64 e] 35 (0, 0)) := by
  have SC := fun a w m X Y => show (store a (.complex .f64 X Y) m).run Tryz.prog w = stored Tryz.prog w a (.complex .f64 X Y) m from run_store _ w a _ m rfl
  have HO := hide (ours_wrong X Y e w)
  have hs6 : b4 + 2 < w.heap.size := (Array.getElem?_eq_some_iff.1 h6).1
  refine callsD_of_wpS Tryz.func60 rfl fun c₀ cs hu => ?_
  apply wpS_seq
  apply wpS_region
  simp [wpOpsS, go_sem, recoverD, hu, Tryz.ntmps60, Exit.thenS]
  refine HO.out.mono ?_; rintro _ w2 ⟨rfl, hb⟩
  have h42 := (hb.block b4 (by omega)).trans h4
  have h52 := (hb.block (b4 + 1) (by omega)).trans h5
  have h62 := (hb.block (b4 + 2) (by omega)).trans h6
  have HB := hide (hb.mono (show b4 ≤ w.heap.size by omega))
  have hs2 : b4 + 2 < w2.heap.size := by have := hb.size; omega
  have H4 := hide h42
  have H5 := hide h52
  have H6 := hide h62
  have c40 := cell_of_row w2 b4 0 _ _ _ h42
  have c41 := cell_of_row w2 b4 1 _ _ _ h42
  have c5 := cell_of_row w2 (b4 + 1) 0 _ _ _ h52
  have c6 := cell_of_row w2 (b4 + 2) 0 _ _ _ h62
  have f40 := frozen_of_row w2 b4 0 _ _ h42
  have f41 := frozen_of_row w2 b4 1 _ _ h42
  have f5 := frozen_of_row w2 (b4 + 1) 0 _ _ h52
  have f6 := frozen_of_row w2 (b4 + 2) 0 _ _ h62
  have he' : (e == 0) = false := by simpa using he
  clear hb HO h4 h5 h6 h42 h52 h62 he
  simp [go_sem, SC]
  refine wpS_of_wp ?_
  go_wp2
  rw [frame14]
  obtain ⟨w3, hw3⟩ : ∃ x, x = w2.alloc (.cells #[.complex .f64 X Y, .int .i64 e] 92) := ⟨_, rfl⟩
  rw [← hw3]
  have HB3 : Hid (w3.heap[w2.heap.size]? = some (.cells #[.complex .f64 X Y, .int .i64 e] 92 (0, 0))) := hide (by rw [hw3]; exact heap_alloc_new w2 _)
  have HG3 : Hid (w2.grownBy w3 .none) := hide (by rw [hw3]; exact only_alloc (World.grownBy.refl _ _) _)
  clear hw3 c40 c41 c5 c6 f40 f41 f5 f6
  have CL0 := fun y : Calm.OnB w2.heap.size w3 => (show y.1.cell? ⟨w2.heap.size, 0, none⟩ = some (.complex .f64 X Y) by rw [cell_of_row y.1 _ 0 _ _ _ (y.2.trans HB3.out)]; rfl)
  have CL1 := fun y : Calm.OnB w2.heap.size w3 => (show y.1.cell? ⟨w2.heap.size, 1, none⟩ = some (.int .i64 e) by rw [cell_of_row y.1 _ 1 _ _ _ (y.2.trans HB3.out)]; rfl)
  refine Calm.region_tree (fun x => ∃ y : Calm.OnB w2.heap.size w3, x = y.1) (.one [0, 1, 2, 3, 4] 5 (.one [] 6 (.one [] 7 (.fin [])))) (by kernel_rfl) (by kernel_rfl) (fun _ _ d _ _ h => by cases d <;> exact h) ⟨⟨w3.drew, rfl⟩, rfl⟩ ?_
  simp only [Calm.wpT, Calm.wpSt, Calm.pickOps, List.getElem?_toArray, List.getElem?_cons_zero, List.getElem?_cons_succ]
  repeat (go_big_quiet_step (fail))
  refine wpQuiet_nil ?_
  clear CL0 CL1
  obtain ⟨w4, hw4⟩ : ∃ x, x = w3.drew := ⟨_, rfl⟩
  rw [← hw4]
  have hg4 : w2.grownBy w4 .none := by rw [hw4]; exact HG3.out.trans (drew_grown _ _)
  have hm4 : w4.heap[w2.heap.size]? = w3.heap[w2.heap.size]? := by rw [hw4]; rfl
  have h4 := (hg4.block b4 (by omega) (by simp)).trans H4.out
  have h5 := (hg4.block (b4 + 1) (by omega) (by simp)).trans H5.out
  have h6 := (hg4.block (b4 + 2) (by omega) (by simp)).trans H6.out
  have HB4 := hide (HB.out.trans ((show Below b4 w2 w4 from ⟨hg4.os, hg4.tape, hg4.output, hg4.size, fun k hk => hg4.block k (by omega) (by simp)⟩)))
  clear hw4 hg4 HG3 HB3 H4 H5 H6
  intro KK hKK
  try rw [if_pos (by rfl)]
  have c40 := cell_of_row w4 b4 0 _ _ _ h4
  have c41 := cell_of_row w4 b4 1 _ _ _ h4
  have f40 := frozen_of_row w4 b4 0 _ _ h4
  have f41 := frozen_of_row w4 b4 1 _ _ h4
  go_wp2_with fail
  clear c40 c41 f40 f41
  obtain ⟨w5, hw5⟩ : ∃ x, x = (w4.setCell ⟨b4, 0, none⟩ (.slice none 0 0)).setCell ⟨b4, 1, none⟩ (.slice none 0 0) := ⟨_, rfl⟩
  rw [← hw5]
  have far5 : ∀ k, k ≠ b4 → w5.heap[k]? = w4.heap[k]? := fun k hk => by
    rw [hw5]; exact (Below.heap_setCell _ ⟨b4, 1, none⟩ _ k (by simpa using hk)).trans (Below.heap_setCell _ ⟨b4, 0, none⟩ _ k (by simpa using hk))
  have h45 : w5.heap[b4]? = some (.cells #[.slice none 0 0, .slice none 0 0] 57 (0, 0)) := by rw [hw5]; exact store2 h4 _ _
  have h55 := (far5 (b4 + 1) (by omega)).trans h5
  have h65 := (far5 (b4 + 2) (by omega)).trans h6
  have hm5 := (far5 w2.heap.size (by omega)).trans hm4
  have HB5 : Hid (Below b4 w4 w5) := hide (by rw [hw5]; exact ⟨rfl, rfl, rfl, by simp [World.setCell], fun k hk => (Below.heap_setCell _ ⟨b4, 1, none⟩ _ k (by simp only; omega)).trans (Below.heap_setCell _ ⟨b4, 0, none⟩ _ k (by simp only; omega))⟩)
  clear hw5 far5 h4 h5 h6
  refine hKK _ _ ⟨⟨w5, hm5⟩, rfl⟩ (fun x => ∃ y : Calm.OnB w2.heap.size w3, x = y.1) (fun _ h => h) ⟨⟨w5, hm5⟩, rfl⟩ ?_
  refine wpQuiet_nil ?_
  intro KK hKK
  try rw [if_pos (by rfl)]
  have c5 := cell_of_row w5 (b4 + 1) 0 _ _ _ h55
  have f5 := frozen_of_row w5 (b4 + 1) 0 _ _ h55
  go_wp2_with fail
  clear c5 f5
  obtain ⟨w6, hw6⟩ : ∃ x, x = w5.setCell ⟨b4 + 1, 0, none⟩ (.complex .f64 X Y) := ⟨_, rfl⟩
  rw [← hw6]
  have far6 : ∀ k, k ≠ b4 + 1 → w6.heap[k]? = w5.heap[k]? := fun k hk => by
    rw [hw6]; exact Below.heap_setCell _ ⟨b4 + 1, 0, none⟩ _ k (by simpa using hk)
  have h56 : w6.heap[b4 + 1]? = some (.cells #[.complex .f64 X Y] 34 (0, 0)) := by rw [hw6]; exact heap_setCell_same w5 (b4 + 1) 0 _ _ _ h55
  have h46 := (far6 b4 (by omega)).trans h45
  have h66 := (far6 (b4 + 2) (by omega)).trans h65
  have hm6 := (far6 w2.heap.size (by omega)).trans hm5
  have HB6 : Hid (Below b4 w5 w6) := hide (by rw [hw6]; exact ⟨rfl, rfl, rfl, by simp [World.setCell], fun k hk => (Below.heap_setCell _ ⟨b4 + 1, 0, none⟩ _ k (by simp only; omega))⟩)
  clear hw6 far6 h45 h55 h65 hm5
  refine hKK _ _ ⟨⟨w6, hm6⟩, rfl⟩ (fun x => ∃ y : Calm.OnB w2.heap.size w3, x = y.1) (fun _ h => h) ⟨⟨w6, hm6⟩, rfl⟩ ?_
  refine wpQuiet_nil ?_
  intro KK hKK
  try rw [if_pos (by rfl)]
  have c6 := cell_of_row w6 (b4 + 2) 0 _ _ _ h66
  have f6 := frozen_of_row w6 (b4 + 2) 0 _ _ h66
  go_wp2_with fail
  clear c6 f6
  obtain ⟨w7, hw7⟩ : ∃ x, x = w6.setCell ⟨b4 + 2, 0, none⟩ (.int .i64 e) := ⟨_, rfl⟩
  rw [← hw7]
  have far7 : ∀ k, k ≠ b4 + 2 → w7.heap[k]? = w6.heap[k]? := fun k hk => by
    rw [hw7]; exact Below.heap_setCell _ ⟨b4 + 2, 0, none⟩ _ k (by simpa using hk)
  have h67 : w7.heap[b4 + 2]? = some (.cells #[.int .i64 e] 35 (0, 0)) := by rw [hw7]; exact heap_setCell_same w6 (b4 + 2) 0 _ _ _ h66
  have h47 := (far7 b4 (by omega)).trans h46
  have h57 := (far7 (b4 + 1) (by omega)).trans h56
  have hm7 := (far7 w2.heap.size (by omega)).trans hm6
  have HB7 : Hid (Below b4 w6 w7) := hide (by rw [hw7]; exact ⟨rfl, rfl, rfl, by simp [World.setCell], fun k hk => (Below.heap_setCell _ ⟨b4 + 2, 0, none⟩ _ k (by simp only; omega))⟩)
  clear hw7 far7 h46 h56 h66 hm6
  refine hKK _ _ ⟨⟨w7, hm7⟩, rfl⟩ (fun x => ∃ y : Calm.OnB w2.heap.size w3, x = y.1) (fun _ h => h) ⟨⟨w7, hm7⟩, rfl⟩ ?_
  refine wpQuiet_nil ?_
  have HQ := hide (((HB4.out.trans HB5.out).trans HB6.out).trans HB7.out)
  clear HB4 HB5 HB6 HB7 HB
  exact ⟨rfl, _, rfl, .tuple #[], by simp [results, Tryz.results60], rfl, rfl, HQ.out, h47, h57, h67⟩

theorem grown_new {w w1 w2 : World} {R : Nat} (h1 : w.grownBy w1 .none) (h2 : w1.grownBy w2 (some R)) (hR : w.heap.size ≤ R) : Below w.heap.size w w2 :=
  ⟨h2.os.trans h1.os, h2.tape.trans h1.tape, h2.output.trans h1.output, Nat.le_trans h1.size h2.size, fun k hk => (h2.block k (Nat.lt_of_lt_of_le hk h1.size) (fun e => by injection e with e; omega)).trans (h1.block k hk (by simp))⟩
theorem OwnD.less {L : List Int} {w : World} {base base' : Nat} {v : Value} {ds : List Y.Dcl} (h : OwnD L w base v ds) (hb : base' ≤ base) : OwnD L w base' v ds := by
  obtain ⟨qs, h1, h2, h3⟩ := h
  refine ⟨qs, h1, ⟨h2.1, ?_⟩, fun q hq => (h3 q hq).less hb⟩
  rcases h2.2 with h0 | ⟨g, cap, cur, e, hb1, hr⟩
  · exact .inl h0
  · exact .inr ⟨g, cap, cur, e, by omega, hr⟩
theorem below_far {B g i : Nat} {a w : World} (h : Below B a w) (u : Value) (hg : B ≤ g) : Below B a (w.setCell ⟨g, i, none⟩ u) :=
  ⟨h.os, h.tape, h.output, by simpa [World.setCell] using h.size, fun k hk => (Below.heap_setCell w ⟨g, i, none⟩ u k (by simp only; omega)).trans (h.block k hk)⟩
/-- What Of answers. -/
def OfAns (L : List Int) (px py : Nat) (w : World) (res : Y.Res (List Y.Dcl × List Y.Prd)) (e : Ending) (w' : World) : Prop :=
  Below w.heap.size w w' ∧ match res with
    | .ok s _ => ∃ dv pv, e = .returned (.tuple #[.agg #[dv, pv], .complex .f64 0 0, .int .i64 0]) ∧ OwnD L w' w.heap.size dv s.1 ∧ OwnP L w' w.heap.size pv s.2
    | .bad none => e = .returned (.tuple #[.agg #[.slice none 0 0, .slice none 0 0], .complex .f64 px py, .int .i64 4])
    | .bad (some t) => e = .returned (.tuple #[.agg #[.slice none 0 0, .slice none 0 0], .complex .f64 (Fl.fl (Pl.pos (L.take t.o)).1) (Fl.fl (Pl.pos (L.take t.o)).2), .int .i64 3])

set_option maxHeartbeats 4000000 in
theorem of_any (L : List Int) (A : Option Addr) (c px py : Nat) (ts : List Tok) (w : World) (hr : RdT L w w.heap.size A ts) (hc : ts.length ≤ c) (hn : ts.length ≤ 4000) :
    Calls Tryz.prog 43 #[.slice A ts.length c, .complex .f64 px py] w (OfAns L px py w (Y.source ts)) := by
  have hmf : ∀ (fn : Fn) (first cap : Array Value) (w : World), (Instr.makeFunc fn first cap).run Tryz.prog w = .ok (.func fn first cap) w := fun _ _ _ _ => rfl
  have SC := fun a w m X Y => show (store a (.complex .f64 X Y) m).run Tryz.prog w = stored Tryz.prog w a (.complex .f64 X Y) m from run_store _ w a _ m rfl
  have HSR := hide (fun (x : World) (R : Nat) (h : Rdr L w.heap.size R px py x ts) => source_any L w.heap.size R px py ts x h)
  have HR := hide hr
  clear hr
  rcases hs : Y.source ts with ⟨s, r⟩ | p
  · rw [hs] at HSR
    clear hs
    go_enter_defers Tryz.func43, Tryz.ntmps43
    go_wp2_with fail
    obtain ⟨w1, hw1⟩ : ∃ x, x = (((w.alloc (.cells #[.slice none 0 0, .slice none 0 0] 57)).alloc (.cells #[.complex .f64 0 0] 34)).alloc (.cells #[.int .i64 0] 35)).alloc (.cells #[.slice A ts.length c, .complex .f64 px py] 95) := ⟨_, rfl⟩
    rw [← hw1]
    have hg1 : w.grownBy w1 .none := by rw [hw1]; exact only_alloc (only_alloc (only_alloc (only_alloc (World.grownBy.refl _ _) _) _) _) _
    have e1 : ∀ k o, k = w.heap.size → o = (Obj.cells #[.slice none 0 0, .slice none 0 0] 57 (0, 0)) → w1.heap[k]? = some o := by
      rintro _ _ rfl rfl
      rw [hw1, Below.heap_alloc _ _ _ (by simp; omega), Below.heap_alloc _ _ _ (by simp; omega), Below.heap_alloc _ _ _ (by simp)]; exact heap_alloc_new w _
    have e2 : w1.heap[w.heap.size + 1]? = some (.cells #[.complex .f64 0 0] 34 (0, 0)) := by
      rw [hw1, Below.heap_alloc _ _ _ (by simp), Below.heap_alloc _ _ _ (by simp)]
      have := heap_alloc_new (w.alloc (.cells #[.slice none 0 0, .slice none 0 0] 57)) (.cells #[.complex .f64 0 0] 34)
      simpa using this
    have e3 : w1.heap[w.heap.size + 2]? = some (.cells #[.int .i64 0] 35 (0, 0)) := by
      rw [hw1, Below.heap_alloc _ _ _ (by simp)]
      have := heap_alloc_new ((w.alloc (.cells #[.slice none 0 0, .slice none 0 0] 57)).alloc (.cells #[.complex .f64 0 0] 34)) (.cells #[.int .i64 0] 35)
      simpa using this
    have e4 : w1.heap[w.heap.size + 3]? = some (.cells #[.slice A ts.length c, .complex .f64 px py] 95 (0, 0)) := by
      rw [hw1]
      have := heap_alloc_new (((w.alloc (.cells #[.slice none 0 0, .slice none 0 0] 57)).alloc (.cells #[.complex .f64 0 0] 34)).alloc (.cells #[.int .i64 0] 35)) (.cells #[.slice A ts.length c, .complex .f64 px py] 95)
      simpa using this
    have HRD : Rdr L w.heap.size (w.heap.size + 3) px py w1 ts := ⟨A, c, e4, hc, hn, HR.out.grown hg1 (fun _ e => by cases e) (Nat.le_refl _), by omega⟩
    have e1 := e1 _ _ rfl rfl
    have hsz1 : w.heap.size + 3 < w1.heap.size := (Array.getElem?_eq_some_iff.1 e4).1
    clear hw1 e4
    refine (HSR.out _ _ HRD).mono ?_; rintro _ w2 ⟨hg2, v, rfl, hrd2, dv, pv, rfl, hod, hop⟩
    have d1 := block_at hg2 e1 (by omega)
    have d2 := block_at hg2 e2 (by omega)
    have d3 := block_at hg2 e3 (by omega)
    have HG2 := hide (grown_new hg1 hg2 (by omega))
    have hle := hg1.size
    have HOD := hide (hod.less hle)
    have HOP := hide (hop.less hle)
    obtain ⟨DA, DC, rfl, _, _⟩ := hod.form
    obtain ⟨PA', PC, rfl, _, _⟩ := hop.form
    have c40 := cell_of_row w2 _ 0 _ _ _ d1
    have c41 := cell_of_row w2 _ 1 _ _ _ d1
    have c5 := cell_of_row w2 _ 0 _ _ _ d2
    have c6 := cell_of_row w2 _ 0 _ _ _ d3
    have f40 := frozen_of_row w2 _ 0 _ _ d1
    have f41 := frozen_of_row w2 _ 1 _ _ d1
    have f5 := frozen_of_row w2 _ 0 _ _ d2
    have f6 := frozen_of_row w2 _ 0 _ _ d3
    have HX1 := hide (other_of d1 (by decide))
    have HX2 := hide (other_of d2 (by decide))
    have HX3 := hide (other_of d3 (by decide))
    have HD1 := hide d1
    have HD2 := hide d2
    have HD3 := hide d3
    clear e1 e2 e3 d1 d2 d3 hg1 hg2 hrd2 hod hop HRD HSR
    go_wp2_with fail
    obtain ⟨w3, hw3⟩ : ∃ x, x = (((w2.setCell ⟨w.heap.size, 0, none⟩ (.slice DA s.1.length DC)).setCell ⟨w.heap.size, 1, none⟩ (.slice PA' s.2.length PC)).setCell ⟨w.heap.size + 1, 0, none⟩ (.complex .f64 0 0)).setCell ⟨w.heap.size + 1 + 1, 0, none⟩ (.int .i64 0) := ⟨_, rfl⟩
    rw [← hw3]
    have far3 : ∀ k, k ≠ w.heap.size → k ≠ w.heap.size + 1 → k ≠ w.heap.size + 2 → w3.heap[k]? = w2.heap[k]? := fun k k1 k2 k3 => by
      rw [hw3]
      exact (Below.heap_setCell _ ⟨w.heap.size + 1 + 1, 0, none⟩ _ k (by simpa using k3)).trans ((Below.heap_setCell _ ⟨w.heap.size + 1, 0, none⟩ _ k (by simpa using k2)).trans ((Below.heap_setCell _ ⟨w.heap.size, 1, none⟩ _ k (by simpa using k1)).trans (Below.heap_setCell _ ⟨w.heap.size, 0, none⟩ _ k (by simpa using k1))))
    have g1 : w3.heap[w.heap.size]? = some (.cells #[.slice DA s.1.length DC, .slice PA' s.2.length PC] 57 (0, 0)) := by
      rw [hw3]
      exact (Below.heap_setCell _ ⟨w.heap.size + 1 + 1, 0, none⟩ _ w.heap.size (by simp only; omega)).trans ((Below.heap_setCell _ ⟨w.heap.size + 1, 0, none⟩ _ w.heap.size (by simp only; omega)).trans (store2 HD1.out _ _))
    have g2 : w3.heap[w.heap.size + 1]? = some (.cells #[.complex .f64 0 0] 34 (0, 0)) := by
      rw [hw3]
      refine (Below.heap_setCell _ ⟨w.heap.size + 1 + 1, 0, none⟩ _ _ (by simp)).trans ?_
      exact heap_setCell_same _ (w.heap.size + 1) 0 _ _ _ ((Below.heap_setCell _ ⟨w.heap.size, 1, none⟩ _ _ (by simp)).trans ((Below.heap_setCell _ ⟨w.heap.size, 0, none⟩ _ _ (by simp)).trans HD2.out))
    have g3 : w3.heap[w.heap.size + 1 + 1]? = some (.cells #[.int .i64 0] 35 (0, 0)) := by
      rw [hw3]
      exact heap_setCell_same _ (w.heap.size + 1 + 1) 0 _ _ _ ((Below.heap_setCell _ ⟨w.heap.size + 1, 0, none⟩ _ _ (by simp)).trans ((Below.heap_setCell _ ⟨w.heap.size, 1, none⟩ _ _ (by simp only; omega)).trans ((Below.heap_setCell _ ⟨w.heap.size, 0, none⟩ _ _ (by simp only; omega)).trans HD3.out)))
    have HG3 : Hid (Below w.heap.size w w3) := hide (by rw [hw3]; exact below_far (below_far (below_far (below_far HG2.out _ (Nat.le_refl _)) _ (Nat.le_refl _)) _ (by omega)) _ (by omega))
    have hk3 : ∀ (v : Value) (base n size : Nat) (e : TypeId) (xs : List Value), w2.ownsRow base e size v n xs → e ≠ 57 → e ≠ 34 → e ≠ 35 → w3.ownsRow base e size v n xs := by
      intro v base n size e xs h n1 n2 n3
      refine ⟨h.1, ?_⟩
      rcases h.2 with h0 | ⟨g, cap, cur, rfl, hb1, hh, hr⟩
      · exact .inl h0
      · refine .inr ⟨g, cap, cur, rfl, hb1, (far3 g ?_ ?_ ?_).trans hh, hr⟩
        · rintro rfl; rw [HD1.out] at hh; injection hh with q; injection q with _ q; exact n1 q.symm
        · rintro rfl; rw [HD2.out] at hh; injection hh with q; injection q with _ q; exact n2 q.symm
        · rintro rfl; rw [HD3.out] at hh; injection hh with q; injection q with _ q; exact n3 q.symm
    have hkr : ∀ (B : Nat) (A : Option Addr) (xs : List Tok), RdR L w2 B A xs → RdR L w3 B A xs := by
      intro B A xs h h0
      obtain ⟨g, cur, e, hB, hh, hc⟩ := h h0
      refine ⟨g, cur, e, hB, (far3 g ?_ ?_ ?_).trans hh, hc⟩
      · rintro rfl; rw [HD1.out] at hh; injection hh with q; injection q with _ q; exact absurd q (by decide)
      · rintro rfl; rw [HD2.out] at hh; injection hh with q; injection q with _ q; exact absurd q (by decide)
      · rintro rfl; rw [HD3.out] at hh; injection hh with q; injection q with _ q; exact absurd q (by decide)
    have HOD3 : Hid (OwnD L w3 w.heap.size (.slice DA s.1.length DC) s.1) := hide (by
      obtain ⟨qs, h1, h2, h3⟩ := HOD.out
      exact ⟨qs, h1, hk3 _ _ _ _ _ _ h2 (by decide) (by decide) (by decide), fun q hq => hkr _ _ _ (h3 q hq)⟩)
    have HOP3 : Hid (OwnP L w3 w.heap.size (.slice PA' s.2.length PC) s.2) := hide (by
      obtain ⟨qs, h1, h2, h3⟩ := HOP.out
      exact ⟨qs, h1, hk3 _ _ _ _ _ _ h2 (by decide) (by decide) (by decide), fun q hq => hkr _ _ _ (h3 q hq)⟩)
    clear hw3 far3 hk3 hkr c40 c41 c5 c6 f40 f41 f5 f6 HG2 HOD HOP HD1 HD2 HD3 HX1 HX2 HX3
    refine leaves_cons (f := 60) (args := #[.pointer (some ⟨w.heap.size, 0, none⟩), .pointer (some ⟨w.heap.size + 1, 0, none⟩), .pointer (some ⟨w.heap.size + 1 + 1, 0, none⟩)]) (by simp) (by simp [go_sem]) ?_
    refine (catch_idle _ _ _ _).mono ?_
    rintro _ _ w4 ⟨rfl, rfl, hb4⟩
    have i1 := (hb4.block w.heap.size (Array.getElem?_eq_some_iff.1 g1).1).trans g1
    have i2 := (hb4.block _ (Array.getElem?_eq_some_iff.1 g2).1).trans g2
    have i3 := (hb4.block _ (Array.getElem?_eq_some_iff.1 g3).1).trans g3
    have c40 := cell_of_row w4 _ 0 _ _ _ i1
    have c41 := cell_of_row w4 _ 1 _ _ _ i1
    have c5 := cell_of_row w4 _ 0 _ _ _ i2
    have c6 := cell_of_row w4 _ 0 _ _ _ i3
    refine ⟨.tuple #[.agg #[.slice DA s.1.length DC, .slice PA' s.2.length PC], .complex .f64 0 0, .int .i64 0], by simp [results, Tryz.results43, go_sem, c40, c41, c5, c6], HG3.out.trans (hb4.mono HG3.out.size), _, _, rfl, HOD3.out.grown (only_below hb4 .none) (Away.none _ _), HOP3.out.grown (only_below hb4 .none) (Away.none _ _)⟩
  · rw [hs] at HSR
    clear hs
    rcases p with _ | t
    · go_enter_defers Tryz.func43, Tryz.ntmps43
      go_wp2_with fail
      obtain ⟨w1, hw1⟩ : ∃ x, x = (((w.alloc (.cells #[.slice none 0 0, .slice none 0 0] 57)).alloc (.cells #[.complex .f64 0 0] 34)).alloc (.cells #[.int .i64 0] 35)).alloc (.cells #[.slice A ts.length c, .complex .f64 px py] 95) := ⟨_, rfl⟩
      rw [← hw1]
      have hg1 : w.grownBy w1 .none := by rw [hw1]; exact only_alloc (only_alloc (only_alloc (only_alloc (World.grownBy.refl _ _) _) _) _) _
      have e1 : ∀ k o, k = w.heap.size → o = (Obj.cells #[.slice none 0 0, .slice none 0 0] 57 (0, 0)) → w1.heap[k]? = some o := by
        rintro _ _ rfl rfl
        rw [hw1, Below.heap_alloc _ _ _ (by simp; omega), Below.heap_alloc _ _ _ (by simp; omega), Below.heap_alloc _ _ _ (by simp)]; exact heap_alloc_new w _
      have e2 : w1.heap[w.heap.size + 1]? = some (.cells #[.complex .f64 0 0] 34 (0, 0)) := by
        rw [hw1, Below.heap_alloc _ _ _ (by simp), Below.heap_alloc _ _ _ (by simp)]
        have := heap_alloc_new (w.alloc (.cells #[.slice none 0 0, .slice none 0 0] 57)) (.cells #[.complex .f64 0 0] 34)
        simpa using this
      have e3 : w1.heap[w.heap.size + 2]? = some (.cells #[.int .i64 0] 35 (0, 0)) := by
        rw [hw1, Below.heap_alloc _ _ _ (by simp)]
        have := heap_alloc_new ((w.alloc (.cells #[.slice none 0 0, .slice none 0 0] 57)).alloc (.cells #[.complex .f64 0 0] 34)) (.cells #[.int .i64 0] 35)
        simpa using this
      have e4 : w1.heap[w.heap.size + 3]? = some (.cells #[.slice A ts.length c, .complex .f64 px py] 95 (0, 0)) := by
        rw [hw1]
        have := heap_alloc_new (((w.alloc (.cells #[.slice none 0 0, .slice none 0 0] 57)).alloc (.cells #[.complex .f64 0 0] 34)).alloc (.cells #[.int .i64 0] 35)) (.cells #[.slice A ts.length c, .complex .f64 px py] 95)
        simpa using this
      have HRD : Rdr L w.heap.size (w.heap.size + 3) px py w1 ts := ⟨A, c, e4, hc, hn, HR.out.grown hg1 (fun _ e => by cases e) (Nat.le_refl _), by omega⟩
      have e1 := e1 _ _ rfl rfl
      have hsz1 : w.heap.size + 3 < w1.heap.size := (Array.getElem?_eq_some_iff.1 e4).1
      clear hw1 e4
      refine (HSR.out _ _ HRD).mono ?_; rintro _ w2 ⟨hg2, rfl⟩
      have d1 := block_at hg2 e1 (by omega)
      have d2 := block_at hg2 e2 (by omega)
      have d3 := block_at hg2 e3 (by omega)
      have HG2 := hide (grown_new hg1 hg2 (by omega))
      clear e1 e2 e3 hg1 hg2 HRD HSR hsz1
      unfold entry
      refine leaves_cons (f := 60) (args := #[.pointer (some ⟨w.heap.size, 0, none⟩), .pointer (some ⟨w.heap.size + 1, 0, none⟩), .pointer (some ⟨w.heap.size + 1 + 1, 0, none⟩)]) (by simp) (by simp [go_sem]) ?_
      refine (catch_wrong w.heap.size px py 4 (by decide) _ _ _ _ [] _ d1 d2 d3).mono ?_
      rintro _ _ w4 ⟨rfl, rfl, hb4, i1, i2, i3⟩
      have c40 := cell_of_row w4 _ 0 _ _ _ i1
      have c41 := cell_of_row w4 _ 1 _ _ _ i1
      have c5 := cell_of_row w4 _ 0 _ _ _ i2
      have c6 : w4.cell? ⟨w.heap.size + 1 + 1, 0, none⟩ = some (.int .i64 4) := by rw [cell_of_row w4 _ 0 _ _ _ i3]; rfl
      exact ⟨.tuple #[.agg #[.slice none 0 0, .slice none 0 0], .complex .f64 px py, .int .i64 4], by simp [results, Tryz.results43, go_sem, c40, c41, c5, c6], HG2.out.trans hb4, rfl⟩
    · go_enter_defers Tryz.func43, Tryz.ntmps43
      go_wp2_with fail
      obtain ⟨w1, hw1⟩ : ∃ x, x = (((w.alloc (.cells #[.slice none 0 0, .slice none 0 0] 57)).alloc (.cells #[.complex .f64 0 0] 34)).alloc (.cells #[.int .i64 0] 35)).alloc (.cells #[.slice A ts.length c, .complex .f64 px py] 95) := ⟨_, rfl⟩
      rw [← hw1]
      have hg1 : w.grownBy w1 .none := by rw [hw1]; exact only_alloc (only_alloc (only_alloc (only_alloc (World.grownBy.refl _ _) _) _) _) _
      have e1 : ∀ k o, k = w.heap.size → o = (Obj.cells #[.slice none 0 0, .slice none 0 0] 57 (0, 0)) → w1.heap[k]? = some o := by
        rintro _ _ rfl rfl
        rw [hw1, Below.heap_alloc _ _ _ (by simp; omega), Below.heap_alloc _ _ _ (by simp; omega), Below.heap_alloc _ _ _ (by simp)]; exact heap_alloc_new w _
      have e2 : w1.heap[w.heap.size + 1]? = some (.cells #[.complex .f64 0 0] 34 (0, 0)) := by
        rw [hw1, Below.heap_alloc _ _ _ (by simp), Below.heap_alloc _ _ _ (by simp)]
        have := heap_alloc_new (w.alloc (.cells #[.slice none 0 0, .slice none 0 0] 57)) (.cells #[.complex .f64 0 0] 34)
        simpa using this
      have e3 : w1.heap[w.heap.size + 2]? = some (.cells #[.int .i64 0] 35 (0, 0)) := by
        rw [hw1, Below.heap_alloc _ _ _ (by simp)]
        have := heap_alloc_new ((w.alloc (.cells #[.slice none 0 0, .slice none 0 0] 57)).alloc (.cells #[.complex .f64 0 0] 34)) (.cells #[.int .i64 0] 35)
        simpa using this
      have e4 : w1.heap[w.heap.size + 3]? = some (.cells #[.slice A ts.length c, .complex .f64 px py] 95 (0, 0)) := by
        rw [hw1]
        have := heap_alloc_new (((w.alloc (.cells #[.slice none 0 0, .slice none 0 0] 57)).alloc (.cells #[.complex .f64 0 0] 34)).alloc (.cells #[.int .i64 0] 35)) (.cells #[.slice A ts.length c, .complex .f64 px py] 95)
        simpa using this
      have HRD : Rdr L w.heap.size (w.heap.size + 3) px py w1 ts := ⟨A, c, e4, hc, hn, HR.out.grown hg1 (fun _ e => by cases e) (Nat.le_refl _), by omega⟩
      have e1 := e1 _ _ rfl rfl
      have hsz1 : w.heap.size + 3 < w1.heap.size := (Array.getElem?_eq_some_iff.1 e4).1
      clear hw1 e4
      refine (HSR.out _ _ HRD).mono ?_; rintro _ w2 ⟨hg2, rfl⟩
      have d1 := block_at hg2 e1 (by omega)
      have d2 := block_at hg2 e2 (by omega)
      have d3 := block_at hg2 e3 (by omega)
      have HG2 := hide (grown_new hg1 hg2 (by omega))
      clear e1 e2 e3 hg1 hg2 HRD HSR hsz1
      unfold entry
      refine leaves_cons (f := 60) (args := #[.pointer (some ⟨w.heap.size, 0, none⟩), .pointer (some ⟨w.heap.size + 1, 0, none⟩), .pointer (some ⟨w.heap.size + 1 + 1, 0, none⟩)]) (by simp) (by simp [go_sem]) ?_
      refine (catch_wrong w.heap.size (Fl.fl (Pl.pos (L.take t.o)).1) (Fl.fl (Pl.pos (L.take t.o)).2) 3 (by decide) _ _ _ _ [] _ d1 d2 d3).mono ?_
      rintro _ _ w4 ⟨rfl, rfl, hb4, i1, i2, i3⟩
      have c40 := cell_of_row w4 _ 0 _ _ _ i1
      have c41 := cell_of_row w4 _ 1 _ _ _ i1
      have c5 := cell_of_row w4 _ 0 _ _ _ i2
      have c6 : w4.cell? ⟨w.heap.size + 1 + 1, 0, none⟩ = some (.int .i64 3) := by rw [cell_of_row w4 _ 0 _ _ _ i3]; rfl
      exact ⟨.tuple #[.agg #[.slice none 0 0, .slice none 0 0], .complex .f64 (Fl.fl (Pl.pos (L.take t.o)).1) (Fl.fl (Pl.pos (L.take t.o)).2), .int .i64 3], by simp [results, Tryz.results43, go_sem, c40, c41, c5, c6], HG2.out.trans hb4, rfl⟩

/-- What Parse answers of a text whose tokens are told. -/
def ParseAns (L : List Int) (w : World) (r : Out) (e : Ending) (w' : World) : Prop :=
  match r with
  | .ok xs => OfAns L (Fl.fl (Pl.pos L).1) (Fl.fl (Pl.pos L).2) w (Y.source xs) e w'
  | .bad o d => Below w.heap.size w w' ∧ e = .returned (.tuple #[.agg #[.slice none 0 0, .slice none 0 0], .complex .f64 (Fl.fl (Pl.pos (L.take o)).1) (Fl.fl (Pl.pos (L.take o)).2), .int .i64 d])
end Go.Proofs.YtoehbkgdodogkaaGreat
