/- Part of the proofs over this program: TrimReach, CySteps, CySteps2, CyWalks, CyCyc, CyOrder. -/
import Derived.Test.YtajcegofflmoeaaGreatDoorKE
namespace Go.Proofs.YtajcegofflmoeaaGreatDoor
set_option maxRecDepth 100000
open Go.RowKit

def Gm.brR (p is : List Bool) (x : Gm.Rl) : List Int := if is.getD x.l.toNat false = true ∧ Gm.allB true p x.r = true then Gm.nts x.r else []
set_option maxHeartbeats 2000000 in
theorem reach1_any (x : Gm.Rl) (is p : List Bool) (A A1 A2 : Option Addr) (c c1 c2 B B1 B2 gk gp : Nat) (w : World)
    (hgk : w.cell? ⟨gk, 0, none⟩ = some (.slice A1 is.length c1)) (hgp : w.cell? ⟨gp, 0, none⟩ = some (.slice A2 p.length c2)) (hr : RdI w B A x.r) (h1 : RdO w B1 A1 is) (h2 : RdO w B2 A2 p)
    (hB : B ≤ w.heap.size) (hB2 : B2 ≤ w.heap.size) (hin : ∀ z ∈ x.r, Gm.In z) (hs : ∀ z ∈ x.r, z < 0 → -1 - z < (p.length : Int)) (hx : 0 ≤ x.l ∧ x.l < is.length) (hl : x.r.length ≤ 1000000) :
    Calls Tryz.prog 86 #[.agg #[.int .i64 x.l, .slice A x.r.length c, .int .i64 x.p], .pointer (some ⟨gk, 0, none⟩), .pointer (some ⟨gp, 0, none⟩)] w fun e w' => ∃ v, e = .returned v ∧ OwnI w' w.heap.size v (Gm.brR p is x) ∧ Below w.heap.size w w' := by
  have HA := hide (fun o => (Below.refl w.heap.size w).alloc (Nat.le_refl _) o)
  have HNO := hide (fun (y : World) (h : Below w.heap.size w y) => nons_any x A c B y (hr.below h hB) hin (Nat.le_trans hB h.size) hl)
  have HPR := hide (fun (y : World) (h : Below w.heap.size w y) => isProductive_any x p A A2 c c2 w.heap.size y ((hr.below h hB).more hB) hin hs ((h2.below h hB2).more hB2) h.size hl)
  have HE : Hid (Gm.brR p is x = if is.getD x.l.toNat false = true ∧ Gm.allB true p x.r = true then Gm.nts x.r else []) := hide rfl
  obtain ⟨l, r, q⟩ := x
  obtain ⟨m, rfl⟩ : ∃ m : Nat, l = (m : Int) := ⟨l.toNat, by have := hx.1; simp only at this; omega⟩
  simp only [Int.toNat_natCast] at HE hx HNO HPR ⊢
  obtain ⟨g, o, rfl, hgb, hc⟩ := h1 (by omega)
  have hm : m < is.length := by omega
  have hm2 : (m : Int) < (is.length : Int) := by omega
  have k0 := hc m hm
  have hl1 := block_lt_of_cell hgk
  have hl2 := block_lt_of_cell hgp
  have hl3 := block_lt_of_cell k0
  have HK2 := hide hgp
  generalize is.getD m false = b at *
  clear hr h1 h2 hB hB2 hin hs hx hl hc
  cases b
  · have HX := hide (HE.out.trans (if_neg (by simp)))
    clear HE
    go_enter Tryz.func86, Tryz.ntmps86
    go_wp2
    go_ret
    exact ⟨_, rfl, by rw [HX.out]; exact OwnI.nil _ _, HA.out _⟩
  · cases ha : Gm.allB true p r
    · have HX := hide (HE.out.trans (if_neg (by rw [ha]; simp)))
      rw [ha] at HPR
      clear HE ha
      go_enter Tryz.func86, Tryz.ntmps86
      go_wp2_with fail
      refine (HPR.out _ (HA.out _)).mono ?_; rintro _ w2 ⟨rfl, hb2⟩
      have HB2 := hide ((HA.out (.cells #[.int .i64 m, .slice A r.length c, .int .i64 q] 51)).trans (hb2.mono (by simp)))
      clear hb2
      go_wp2
      go_ret
      exact ⟨_, rfl, by rw [HX.out]; exact OwnI.nil _ _, HB2.out⟩
    · have HX := hide (HE.out.trans (if_pos ⟨rfl, ha⟩))
      rw [ha] at HPR
      clear HE ha
      go_enter Tryz.func86, Tryz.ntmps86
      go_wp2_with fail
      refine (HPR.out _ (HA.out _)).mono ?_; rintro _ w2 ⟨rfl, hb2⟩
      have HB2 := hide ((HA.out (.cells #[.int .i64 m, .slice A r.length c, .int .i64 q] 51)).trans (hb2.mono (by simp)))
      have hb := (hb2.block w.heap.size (by simp)).trans (heap_alloc_new w _)
      have d0 := cell_of_row w2 _ 0 _ _ _ hb
      have d1 := cell_of_row w2 _ 1 _ _ _ hb
      have d2 := cell_of_row w2 _ 2 _ _ _ hb
      have ld := (Array.getElem?_eq_some_iff.1 hb).1
      clear hb2 hb
      go_wp2_with fail
      refine (HNO.out _ HB2.out).mono ?_; rintro _ w3 ⟨v, rfl, ho3, hb3⟩
      have HO3 := hide (ho3.mono HB2.out.size)
      have HB3 := hide (HB2.out.trans (hb3.mono HB2.out.size))
      clear ho3 hb3
      go_wp2
      go_ret
      exact ⟨_, rfl, by rw [HX.out]; exact HO3.out, HB3.out⟩

theorem run_mkO (w : World) (t : TypeId) (ht : Tryz.prog.underlying t = some (.slice 4)) (n : Nat) (hn : n ≤ 35184372088832) :
    ∃ w', (Instr.makeSlice t (.int .i64 n) (.int .i64 n)).run Tryz.prog w = .ok (.slice (some ⟨w.heap.size, 0, none⟩) n n) w' ∧ UBO w' w.heap.size (List.replicate n false) ∧ Below w.heap.size w w' := by
  obtain ⟨i, hi, hz0, hz1, hz2⟩ := info_parts infoO
  obtain ⟨w', hrun, hown, hgr⟩ := run_make_full (P := Tryz.prog) w w.heap.size t 4 i (.bool false) 1 ht hi hz0 hz1 .i64 .i64 n (by rw [hz2]; omega) (by unfold maxLen; omega) (Nat.le_refl _)
  refine ⟨w', hrun, ?_, ⟨hgr.os, hgr.tape, hgr.output, hgr.size, fun k hk => hgr.block k hk (by simp)⟩⟩
  refine ubO_of_full (base := w.heap.size) (n := n) ?_
  rw [map_replicateO]
  have e : (madeCells (Value.bool false).cells (n * 1)).toList = List.replicate n (Value.bool false) := by
    rw [Nat.mul_one]; exact toList_madeCells_one _ _
  rw [e] at hown; exact hown
theorem mkO_wp {w : World} {o : Oper} {a : Act} {K : Act → World → Prop} {Q : Exit → Act → World → Prop} (l c : Operand) (t : TypeId) (hop : o.op = Op.makeSlice t l c) (ht : Tryz.prog.underlying t = some (.slice 4)) (n : Nat) (hl : a.eval l = .int .i64 n) (hc : a.eval c = .int .i64 n) (hn : n ≤ 35184372088832)
    (hK : ∀ w', UBO w' w.heap.size (List.replicate n false) → Below w.heap.size w w' → K (a.put o.dst (.slice (some ⟨w.heap.size, 0, none⟩) n n)) w') : Oper.wp Tryz.prog o a w K Q := by
  obtain ⟨w', hrun, h1, h2⟩ := run_mkO w t ht n hn
  unfold Oper.wp
  simp [execOp, hop, hl, hc, hrun, Result.andThen]
  exact hK w' h1 h2
structure JR (w2 : World) (n : Nat) (row : List Bool) (todo : List Nat) (wx : World) (x3 x5 x6 x7 : Value) (g3 g5 c6 c7 : Nat) : Prop where
  t : ∀ k ∈ todo, k = 3 ∨ k = 5 ∨ k = 6 ∨ k = 7
  b : Below w2.heap.size w2 wx
  h3 : 3 ∉ todo → x3 = .slice (some ⟨g3, 0, none⟩) n n ∧ w2.heap.size ≤ g3 ∧ UBO wx g3 (List.replicate n false)
  h5 : 5 ∉ todo → x5 = .slice (some ⟨g5, 0, none⟩) n n ∧ w2.heap.size ≤ g5 ∧ UBO wx g5 row
  h6 : 6 ∉ todo → x6 = .pointer (some ⟨c6, 0, none⟩) ∧ w2.heap.size ≤ c6 ∧ wx.heap[c6]? = some (.cells #[.slice none 0 0] 39 (0, 0))
  h7 : 7 ∉ todo → x7 = .pointer (some ⟨c7, 0, none⟩) ∧ w2.heap.size ≤ c7 ∧ wx.heap[c7]? = some (.cells #[.slice none 0 0] 39 (0, 0))
  d35 : 3 ∉ todo → 5 ∉ todo → g3 ≠ g5
  d67 : 6 ∉ todo → 7 ∉ todo → c6 ≠ c7
section
variable {w2 wx w' : World} {n : Nat} {row : List Bool} {todo : List Nat} {x3 x5 x6 x7 : Value} {g3 g5 c6 c7 : Nat}
theorem not_erase {l : List Nat} {j k : Nat} (h : j ∉ l.erase k) (hne : j ≠ k) : j ∉ l := fun hm => h ((List.mem_erase_of_ne hne).2 hm)
theorem heap_keep {g : Nat} {o : Obj} (hb : Below wx.heap.size wx w') (h : wx.heap[g]? = some o) : w'.heap[g]? = some o := (hb.block g (Array.getElem?_eq_some_iff.1 h).1).trans h
theorem JR.put3 (h : JR w2 n row todo wx x3 x5 x6 x7 g3 g5 c6 c7) (hb : Below wx.heap.size wx w') (hu : UBO w' wx.heap.size (List.replicate n false)) : JR w2 n row (todo.erase 3) w' (.slice (some ⟨wx.heap.size, 0, none⟩) n n) x5 x6 x7 wx.heap.size g5 c6 c7 where
  t k hk := h.t k (List.mem_of_mem_erase hk)
  b := h.b.trans (hb.mono h.b.size)
  h3 _ := ⟨rfl, h.b.size, hu⟩
  h5 q := by obtain ⟨a1, a2, a3⟩ := h.h5 (not_erase q (by decide)); exact ⟨a1, a2, heap_keep hb a3⟩
  h6 q := by obtain ⟨a1, a2, a3⟩ := h.h6 (not_erase q (by decide)); exact ⟨a1, a2, heap_keep hb a3⟩
  h7 q := by obtain ⟨a1, a2, a3⟩ := h.h7 (not_erase q (by decide)); exact ⟨a1, a2, heap_keep hb a3⟩
  d35 _ q := by have := UBO.lt (h.h5 (not_erase q (by decide))).2.2; omega
  d67 q1 q2 := h.d67 (not_erase q1 (by decide)) (not_erase q2 (by decide))
theorem JR.put5 (h : JR w2 n row todo wx x3 x5 x6 x7 g3 g5 c6 c7) (hb : Below wx.heap.size wx w') {g : Nat} (hg : wx.heap.size ≤ g) (hu : UBO w' g row) : JR w2 n row (todo.erase 5) w' x3 (.slice (some ⟨g, 0, none⟩) n n) x6 x7 g3 g c6 c7 where
  t k hk := h.t k (List.mem_of_mem_erase hk)
  b := h.b.trans (hb.mono h.b.size)
  h5 _ := ⟨rfl, Nat.le_trans h.b.size hg, hu⟩
  h3 q := by obtain ⟨a1, a2, a3⟩ := h.h3 (not_erase q (by decide)); exact ⟨a1, a2, heap_keep hb a3⟩
  h6 q := by obtain ⟨a1, a2, a3⟩ := h.h6 (not_erase q (by decide)); exact ⟨a1, a2, heap_keep hb a3⟩
  h7 q := by obtain ⟨a1, a2, a3⟩ := h.h7 (not_erase q (by decide)); exact ⟨a1, a2, heap_keep hb a3⟩
  d35 q _ := by have := UBO.lt (h.h3 (not_erase q (by decide))).2.2; omega
  d67 q1 q2 := h.d67 (not_erase q1 (by decide)) (not_erase q2 (by decide))
theorem JR.put6 (h : JR w2 n row todo wx x3 x5 x6 x7 g3 g5 c6 c7) : JR w2 n row (todo.erase 6) (wx.alloc (.cells #[.slice none 0 0] 39)) x3 x5 (.pointer (some ⟨wx.heap.size, 0, none⟩)) x7 g3 g5 wx.heap.size c7 where
  t k hk := h.t k (List.mem_of_mem_erase hk)
  b := h.b.alloc h.b.size _
  h6 _ := ⟨rfl, h.b.size, heap_alloc_new wx _⟩
  h3 q := by obtain ⟨a1, a2, a3⟩ := h.h3 (not_erase q (by decide)); exact ⟨a1, a2, a3.alloc _⟩
  h5 q := by obtain ⟨a1, a2, a3⟩ := h.h5 (not_erase q (by decide)); exact ⟨a1, a2, a3.alloc _⟩
  h7 q := by obtain ⟨a1, a2, a3⟩ := h.h7 (not_erase q (by decide)); exact ⟨a1, a2, heap_keep ((Below.refl _ _).alloc (Nat.le_refl _) _) a3⟩
  d35 q1 q2 := h.d35 (not_erase q1 (by decide)) (not_erase q2 (by decide))
  d67 _ q := by have := (Array.getElem?_eq_some_iff.1 (h.h7 (not_erase q (by decide))).2.2).1; omega
theorem JR.put7 (h : JR w2 n row todo wx x3 x5 x6 x7 g3 g5 c6 c7) : JR w2 n row (todo.erase 7) (wx.alloc (.cells #[.slice none 0 0] 39)) x3 x5 x6 (.pointer (some ⟨wx.heap.size, 0, none⟩)) g3 g5 c6 wx.heap.size where
  t k hk := h.t k (List.mem_of_mem_erase hk)
  b := h.b.alloc h.b.size _
  h7 _ := ⟨rfl, h.b.size, heap_alloc_new wx _⟩
  h3 q := by obtain ⟨a1, a2, a3⟩ := h.h3 (not_erase q (by decide)); exact ⟨a1, a2, a3.alloc _⟩
  h5 q := by obtain ⟨a1, a2, a3⟩ := h.h5 (not_erase q (by decide)); exact ⟨a1, a2, a3.alloc _⟩
  h6 q := by obtain ⟨a1, a2, a3⟩ := h.h6 (not_erase q (by decide)); exact ⟨a1, a2, heap_keep ((Below.refl _ _).alloc (Nat.le_refl _) _) a3⟩
  d35 q1 q2 := h.d35 (not_erase q1 (by decide)) (not_erase q2 (by decide))
  d67 q _ := by have := (Array.getElem?_eq_some_iff.1 (h.h6 (not_erase q (by decide))).2.2).1; omega
end
theorem Gm.brR_in {G : Gm.Gr} (hok : Gm.Ok G) {s : List Bool} {x : Gm.Rl} (hx : x ∈ G.rs) (hd : ∀ i : Nat, s.getD i false = true → Gm.Rc G (i : Int)) {m : Int} (hm : m ∈ Gm.brR (Gm.gn true G.rs G.ns.length) s x) : 0 ≤ m ∧ m < G.ns.length ∧ Gm.Rc G m := by
  unfold Gm.brR at hm
  split at hm
  · rename_i h
    obtain ⟨h1, h2⟩ := Gm.nts_mem.1 hm
    have h3 := hok.sin x hx _ h1 (by omega)
    have h4 := hd _ h.1
    rw [Int.toNat_of_nonneg (hok.lin x hx).1] at h4
    have h5 := Gm.Rc.on x hx h4 ((Gm.allB_gn hok.lin _).1 h.2) _ h1 (by omega)
    rw [show -1 - (-1 - m) = m by omega] at h5 h3
    exact ⟨h2, h3, h5⟩
  · simp at hm
theorem Gm.brR_len (p s : List Bool) (x : Gm.Rl) (h : x.r.length ≤ 6) : (Gm.brR p s x).length ≤ 1000000 := by
  unfold Gm.brR
  split
  · have := Gm.nts_len x.r; omega
  · simp
theorem Gm.rc_of {G : Gm.Gr} (hok : Gm.Ok G) {s : List Bool} (hl : s.length = G.ns.length) (hd : ∀ i : Nat, s.getD i false = true → Gm.Rc G (i : Int)) (hle : Gm.Le ((List.replicate G.ns.length false).set G.st.toNat true) s)
    (hc : ∀ x ∈ G.rs, ∀ m ∈ Gm.brR (Gm.gn true G.rs G.ns.length) s x, s.getD m.toNat false = true) : s = Gm.rc G := by
  refine Gm.rc_row hl hd ⟨hle.get _ (Gm.set_getD _ _ (by have := hok.s0; have := hok.s1; simp; omega)), fun x hx h1 h2 z hz hn => ?_⟩
  refine hc x hx (-1 - z) ?_
  unfold Gm.brR
  rw [if_pos ⟨h1, (Gm.allB_gn hok.lin _).2 h2⟩]
  exact Gm.nts_mem.2 ⟨by rw [show -1 - (-1 - z) = z by omega]; exact hz, by omega⟩
theorem Gm.st_snd {G : Gm.Gr} (hok : Gm.Ok G) (i : Nat) (h : ((List.replicate G.ns.length false).set G.st.toNat true).getD i false = true) : Gm.Rc G (i : Int) := by
  rcases Gm.getD_set _ _ _ h with h1 | h1
  · rw [List.getD_eq_getElem?_getD, List.getElem?_replicate] at h1
    split at h1 <;> cases h1
  · rw [h1, Int.toNat_of_nonneg hok.s0]; exact .st
set_option maxHeartbeats 8000000 in
theorem reachable_any (v : Value) (G : Gm.Gr) (B : Nat) (w : World) (hg : RdGr w B v G) (hf : Gm.Fit G) (hB : B ≤ w.heap.size) :
    Calls Tryz.prog 52 #[v] w (RowB (Gm.right G) (Gm.rc G) w) := by
  have H1 := hide (fun (x : World) (h : Below w.heap.size w x) => gright_any v G B x (hg.below h hB) hf (Nat.le_trans hB h.size))
  have H2 := hide (fun (x : World) (h : Below w.heap.size w x) => productive_any v G B x (hg.below h hB) hf (Nat.le_trans hB h.size))
  have HGG := hide (fun (x : World) (h : Below w.heap.size w x) => hg.below h hB)
  obtain ⟨AT, cT, AN, cN, AR, cR, rfl, _, ⟨hlN, hmN⟩, _, _, _, hR⟩ := hg
  have HS0 := hide (One.start w #[.slice AT G.ts.length cT, .slice AN G.ns.length cN, .slice AR G.rs.length cR, .int .i64 G.st])
  have HRl := hide hR
  have HB := hide hB
  have HFT := hide hf
  clear hf hR hB
  cases q : Gm.right G
  · rw [q] at H1
    clear q H2
    go_enter Tryz.func52, Tryz.ntmps52
    go_wp2_with fail
    refine (H1.out _ HS0.out.below).mono ?_; rintro _ w2 ⟨rfl, hb⟩
    have HB2 := hide (HS0.out.on hb)
    clear hb
    go_wp2
    go_ret
    exact ⟨fun h => by simp at h, fun _ => ⟨rfl, HB2.out.below⟩⟩
  · have HOK := hide (Gm.right_ok.1 q)
    have HN : Hid (G.ns.length ≤ 40) := hide (by have := (Gm.nons_iff G).1 HOK.out.n; omega)
    have HR40 : Hid (G.rs.length ≤ 40) := hide HOK.out.r40
    have H2 := hide (fun x h => (show Calls _ _ _ _ (RowT _ _) from (H2.out x h).mono fun e w' k => k.1 q))
    rw [q] at H1
    clear q
    have hnn := HN.out
    have hlen : (G.ns.length : Int) ≤ 9223372036854775807 := by omega
    go_enter Tryz.func52, Tryz.ntmps52
    go_upto_region 3 with fail
    refine (H1.out _ HS0.out.below).mono ?_; rintro _ w2 ⟨rfl, hb⟩
    have HB2 := hide (HS0.out.on hb)
    clear hb
    go_upto_region 3 with fail
    have HW2 : Hid (Below w.heap.size w w2) := hide HB2.out.below
    have HBX := hide ((Below.block HB2.out w.heap.size (by omega)).trans (heap_alloc_new w _))
    have hd1 : w.heap.size < w2.heap.size := HB2.out.size
    obtain ⟨T, hT⟩ : ∃ x, x = Gm.gn true G.rs G.ns.length := ⟨_, rfl⟩
    have HTl : Hid (T.length = G.ns.length) := hide (by rw [hT, Gm.gn_len])
    rw [← hT] at H2
    have HT := hide hT
    clear hT
    have H3 := hide (fun (x : World) (h : Below w2.heap.size w2 x) => H2.out x (HW2.out.trans (h.mono (Nat.le_of_lt hd1))))
    have q0 := fun y : Calm.On w2.heap.size w2 => (y.2.cell (p := ⟨w.heap.size, 0, none⟩) hd1).trans (HB2.out.c 0 _ rfl)
    have q1 := fun y : Calm.On w2.heap.size w2 => (y.2.cell (p := ⟨w.heap.size, 1, none⟩) hd1).trans (HB2.out.c 1 _ rfl)
    have q2 := fun y : Calm.On w2.heap.size w2 => (y.2.cell (p := ⟨w.heap.size, 2, none⟩) hd1).trans (HB2.out.c 2 _ rfl)
    have q3 := fun y : Calm.On w2.heap.size w2 => (y.2.cell (p := ⟨w.heap.size, 3, none⟩) hd1).trans (HB2.out.c 3 _ rfl)
    clear H1 HS0 H2
    refine CalmN.region_all (fun x => ∃ y : Calm.On w2.heap.size w2, x = y.1) [0, 1, 2, 4] [3, 5, 6, 7] (.one [] 8 (.one [] 9 (.fin [])))
      (fun todo a wx => ∃ x3 x5 x6 x7 g3 g5 c6 c7, a = { tmps := #[.agg #[.slice AT G.ts.length cT, .slice AN G.ns.length cN, .slice AR G.rs.length cR, .int .i64 G.st], .pointer (some ⟨w.heap.size, 0, none⟩), .slice none 0 0, x6, x7, .agg #[.slice AT G.ts.length cT, .slice AN G.ns.length cN, .slice AR G.rs.length cR, .int .i64 G.st], .bool true, .bool false, .pointer (some ⟨w.heap.size, 1, none⟩), .slice AN G.ns.length cN, .int .i64 G.ns.length, x3, .agg #[.slice AT G.ts.length cT, .slice AN G.ns.length cN, .slice AR G.rs.length cR, .int .i64 G.st], x5, undef, undef, undef, undef, undef, undef, undef, undef, undef, undef], defers := [] } ∧ JR w2 G.ns.length T todo wx x3 x5 x6 x7 g3 g5 c6 c7)
      (by kernel_rfl) (by kernel_rfl) (fun _ _ d _ _ h => by cases d <;> exact h) ⟨⟨w2.drew, below_drewN (Below.refl _ _) 1⟩, rfl⟩ ?_ ?_ ?_
    · simp only [CalmN.pickOps, List.getElem?_toArray, List.getElem?_cons_zero, List.getElem?_cons_succ]
      repeat (go_big_quiet_step (fail))
      refine wpQuiet_nil ?_
      exact ⟨undef, undef, undef, undef, 0, 0, 0, 0, rfl, ⟨by simp, below_drewN (Below.refl _ _) 1, fun h => absurd (by simp) h, fun h => absurd (by simp) h, fun h => absurd (by simp) h, fun h => absurd (by simp) h, fun h => absurd (by simp) h, fun h => absurd (by simp) h⟩⟩
    · intro todo k a wx hk hJ hS
      obtain ⟨x3, x5, x6, x7, g3, g5, c6, c7, rfl, hJ⟩ := hJ
      have HJ := hide hJ
      have hcase := hJ.t k hk
      clear hJ hS hk q0 q1 q2 q3
      rcases hcase with rfl | rfl | rfl | rfl
      · simp only [CalmN.wpSt, List.getElem?_toArray, List.getElem?_cons_zero, List.getElem?_cons_succ]
        intro KK hKK
        rw [if_pos (by rfl)]
        refine mkO_wp (.tmp 10) (.tmp 10) _ rfl Tryz.underlying39 G.ns.length rfl rfl (by omega) ?_
        intro w' hu hb
        have hj := HJ.out.put3 hb hu
        exact hKK _ _ ⟨⟨w', hj.b⟩, rfl⟩ (fun x => ∃ y : Calm.On w2.heap.size w2, x = y.1) (fun _ h => h) ⟨⟨w', hj.b⟩, rfl⟩ ⟨_, x5, x6, x7, _, g5, c6, c7, rfl, hj⟩
      · simp only [CalmN.wpSt, List.getElem?_toArray, List.getElem?_cons_zero, List.getElem?_cons_succ]
        intro KK hKK
        rw [if_pos (by rfl)]
        go_wp2_with fail
        refine (H3.out wx HJ.out.b).mono ?_; rintro _ w' ⟨g, rfl, hg, hu, hb⟩
        have hj := HJ.out.put5 hb hg hu
        go_wp2_with fail
        rw [HTl.out]
        exact hKK _ _ ⟨⟨w', hj.b⟩, rfl⟩ (fun x => ∃ y : Calm.On w2.heap.size w2, x = y.1) (fun _ h => h) ⟨⟨w', hj.b⟩, rfl⟩ ⟨x3, _, x6, x7, g3, _, c6, c7, rfl, hj⟩
      · simp only [CalmN.wpSt, List.getElem?_toArray, List.getElem?_cons_zero, List.getElem?_cons_succ]
        intro KK hKK
        rw [if_pos (by rfl)]
        have hj := HJ.out.put6
        go_wp2_with fail
        exact hKK _ _ ⟨⟨_, hj.b⟩, rfl⟩ (fun x => ∃ y : Calm.On w2.heap.size w2, x = y.1) (fun _ h => h) ⟨⟨_, hj.b⟩, rfl⟩ ⟨x3, x5, _, x7, g3, g5, _, c7, rfl, hj⟩
      · simp only [CalmN.wpSt, List.getElem?_toArray, List.getElem?_cons_zero, List.getElem?_cons_succ]
        intro KK hKK
        rw [if_pos (by rfl)]
        have hj := HJ.out.put7
        go_wp2_with fail
        exact hKK _ _ ⟨⟨_, hj.b⟩, rfl⟩ (fun x => ∃ y : Calm.On w2.heap.size w2, x = y.1) (fun _ h => h) ⟨⟨_, hj.b⟩, rfl⟩ ⟨x3, x5, x6, _, g3, g5, c6, _, rfl, hj⟩
    · intro a wx hJ hS
      obtain ⟨x3, x5, x6, x7, g3, g5, c6, c7, rfl, hJ⟩ := hJ
      obtain ⟨rfl, hg3, hu3⟩ := hJ.h3 (by simp)
      obtain ⟨rfl, hg5, hu5⟩ := hJ.h5 (by simp)
      obtain ⟨rfl, hc6, hu6⟩ := hJ.h6 (by simp)
      obtain ⟨rfl, hc7, hu7⟩ := hJ.h7 (by simp)
      have hd35 := hJ.d35 (by simp) (by simp)
      have hd67 := hJ.d67 (by simp) (by simp)
      have hbx := hJ.b
      clear hS q0 q1 q2 q3
      -- the two stores
      have hne36 : g3 ≠ c6 := fun e => by subst e; unfold UBO at hu3; rw [hu6] at hu3; injection hu3 with hu3; injection hu3 with _ hu3; cases hu3
      have hne56 : g5 ≠ c6 := fun e => by subst e; unfold UBO at hu5; rw [hu6] at hu5; injection hu5 with hu5; injection hu5 with _ hu5; cases hu5
      have hne37 : g3 ≠ c7 := fun e => by subst e; unfold UBO at hu3; rw [hu7] at hu3; injection hu3 with hu3; injection hu3 with _ hu3; cases hu3
      have hne57 : g5 ≠ c7 := fun e => by subst e; unfold UBO at hu5; rw [hu7] at hu5; injection hu5 with hu5; injection hu5 with _ hu5; cases hu5
      have l6 := (Array.getElem?_eq_some_iff.1 hu6).1
      have f6 := frozen_of_row wx _ 0 _ _ hu6
      have k6 := cell_of_row wx _ 0 _ _ _ hu6
      obtain ⟨wy, hwy⟩ : ∃ y, y = wx.setCell ⟨c6, 0, none⟩ (.slice (some ⟨g3, 0, none⟩) G.ns.length G.ns.length) := ⟨_, rfl⟩
      have hby : Below w2.heap.size w2 wy := by rw [hwy]; exact hbx.setCell (p := ⟨c6, 0, none⟩) hc6 _
      have hy3 : UBO wy g3 (List.replicate G.ns.length false) := by rw [hwy]; exact UBO.far hu3 hne36 _
      have hy5 : UBO wy g5 T := by rw [hwy]; exact UBO.far hu5 hne56 _
      have hy7 : wy.heap[c7]? = some (.cells #[.slice none 0 0] 39 (0, 0)) := by rw [hwy]; exact (Below.heap_setCell wx ⟨c6, 0, none⟩ _ c7 (by simp only; omega)).trans hu7
      have hy6 : wy.heap[c6]? = some (.cells #[.slice (some ⟨g3, 0, none⟩) G.ns.length G.ns.length] 39 (0, 0)) := by rw [hwy]; exact heap_setCell_same wx c6 0 _ _ _ hu6
      clear hu3 hu5 hu6 hu7 hJ hbx
      simp only [CalmN.wpT, CalmN.wpSt, CalmN.pickOps, List.getElem?_toArray, List.getElem?_cons_zero, List.getElem?_cons_succ]
      refine wpQuiet_nil ?_
      intro KK hKK
      rw [if_pos (by rfl)]
      go_wp2_with fail
      rw [← hwy]
      refine hKK _ _ ⟨⟨wy, hby⟩, rfl⟩ (fun x => ∃ y : Calm.On w2.heap.size w2, x = y.1) (fun _ h => h) ⟨⟨wy, hby⟩, rfl⟩ ?_
      clear hKK k6 f6 l6 hwy
      have l7 := (Array.getElem?_eq_some_iff.1 hy7).1
      have f7 := frozen_of_row wy _ 0 _ _ hy7
      have k7 := cell_of_row wy _ 0 _ _ _ hy7
      obtain ⟨wz, hwz⟩ : ∃ y, y = wy.setCell ⟨c7, 0, none⟩ (.slice (some ⟨g5, 0, none⟩) G.ns.length G.ns.length) := ⟨_, rfl⟩
      have hbz : Below w2.heap.size w2 wz := by rw [hwz]; exact hby.setCell (p := ⟨c7, 0, none⟩) hc7 _
      have hz3 : UBO wz g3 (List.replicate G.ns.length false) := by rw [hwz]; exact UBO.far hy3 hne37 _
      have hz5 : UBO wz g5 T := by rw [hwz]; exact UBO.far hy5 hne57 _
      have hz6 : wz.heap[c6]? = some (.cells #[.slice (some ⟨g3, 0, none⟩) G.ns.length G.ns.length] 39 (0, 0)) := by rw [hwz]; exact (Below.heap_setCell wy ⟨c7, 0, none⟩ _ c6 (by simp only; omega)).trans hy6
      have hz7 : wz.heap[c7]? = some (.cells #[.slice (some ⟨g5, 0, none⟩) G.ns.length G.ns.length] 39 (0, 0)) := by rw [hwz]; exact heap_setCell_same wy c7 0 _ _ _ hy7
      clear hy3 hy5 hy6 hy7 hby
      refine wpQuiet_nil ?_
      intro KK hKK
      rw [if_pos (by rfl)]
      go_wp2_with fail
      rw [← hwz]
      refine hKK _ _ ⟨⟨wz, hbz⟩, rfl⟩ (fun x => ∃ y : Calm.On w2.heap.size w2, x = y.1) (fun _ h => h) ⟨⟨wz, hbz⟩, rfl⟩ ?_
      clear hKK k7 f7 l7 hwz
      refine wpQuiet_nil ?_
      -- the start
      have r2 := (hbz.cell (p := ⟨w.heap.size, 2, none⟩) hd1).trans (HB2.out.c 2 _ rfl)
      have r3 := (hbz.cell (p := ⟨w.heap.size, 3, none⟩) hd1).trans (HB2.out.c 3 _ rfl)
      have hst := HOK.out.s0
      have hst1 := HOK.out.s1
      obtain ⟨m, hm⟩ : ∃ m : Nat, G.st = (m : Int) := ⟨G.st.toNat, by omega⟩
      have HM := hide hm
      rw [hm] at r3 hst1
      have k3 := hz3.cell m (by simp; omega)
      have f3 := hz3.frozen m
      have l3 := hz3.lt
      have k6 := cell_of_row wz _ 0 _ _ _ hz6
      have l6 := (Array.getElem?_eq_some_iff.1 hz6).1
      have ld : w.heap.size < wz.heap.size := Nat.lt_of_lt_of_le hd1 hbz.size
      obtain ⟨wv, hwv⟩ : ∃ y, y = wz.setCell ⟨g3, m, none⟩ (.bool true) := ⟨_, rfl⟩
      have hbv : Below w2.heap.size w2 wv := by rw [hwv]; exact hbz.setCell (p := ⟨g3, m, none⟩) hg3 _
      have hv3 : UBO wv g3 ((List.replicate G.ns.length false).set m true) := by rw [hwv]; exact hz3.set_ m true
      have hv5 : UBO wv g5 T := by rw [hwv]; exact UBO.far hz5 (by simp only; omega) _
      have hv6 : wv.heap[c6]? = some (.cells #[.slice (some ⟨g3, 0, none⟩) G.ns.length G.ns.length] 39 (0, 0)) := by rw [hwv]; exact (Below.heap_setCell wz ⟨g3, m, none⟩ _ c6 (by simp only; omega)).trans hz6
      have hv7 : wv.heap[c7]? = some (.cells #[.slice (some ⟨g5, 0, none⟩) G.ns.length G.ns.length] 39 (0, 0)) := by rw [hwv]; exact (Below.heap_setCell wz ⟨g3, m, none⟩ _ c7 (by simp only; omega)).trans hz7
      have HD := hide (And.intro hne36 (And.intro hne56 (And.intro hne37 (And.intro hne57 (And.intro hd35 (And.intro hg3 (And.intro hg5 hbz)))))))
      clear hz3 hz5 hz6 hz7 hm hne36 hne56 hne37 hne57 hd35 hd67 hc6 hc7 hg5 hbz
      go_upto_region 5 with fail
      rw [← hwv]
      have u2 := (hbv.cell (p := ⟨w.heap.size, 2, none⟩) hd1).trans (HB2.out.c 2 _ rfl)
      have u6 : wv.cell? ⟨c6, 0, none⟩ = some (.slice (some ⟨g3, 0, none⟩) G.ns.length G.ns.length) := by rw [cell_of_row wv _ 0 _ _ _ hv6]; rfl
      have u7 : wv.cell? ⟨c7, 0, none⟩ = some (.slice (some ⟨g5, 0, none⟩) G.ns.length G.ns.length) := by rw [cell_of_row wv _ 0 _ _ _ hv7]; rfl
      have hWv : Below w.heap.size w wv := HW2.out.trans (hbv.mono (Nat.le_of_lt hd1))
      have hdw : w.heap.size ≤ w2.heap.size := Nat.le_of_lt hd1
      have hRv : RdRl wv B AR G.rs := HRl.out.keep fun g o hg => hWv.cell (p := ⟨g, o, none⟩) (Nat.lt_of_lt_of_le hg HB.out)
      have hm2 : G.st.toNat = m := by rw [HM.out]; simp
      have hBg : B ≤ g3 := Nat.le_trans (Nat.le_trans HB.out hdw) hg3
      have hnT : G.ns.length = T.length := HTl.out.symm
      have HGR := hide (grow_any 86 c6 c7 (enter_of Tryz.func86 (by kernel_rfl) (by kernel_rfl)) G.rs AR cR G.ns.length B g3 G.ns.length wv ((List.replicate G.ns.length false).set G.st.toNat true) (Gm.Rc G) (Gm.brR T)
        hRv (Nat.le_trans HB.out hWv.size) hBg (by rw [hm2]; exact hv3) (by simp) (Gm.st_snd HOK.out) (by have := HR40.out; omega)
        (fun y s x A' c' hgr hu hl hx hr => by
          have e := HFT.out.r x hx
          have q2 := kept_cell hgr u6 (fun e => HD.out.1 e.symm)
          rw [← hl] at q2
          have q3 := kept_cell hgr u7 (fun e => HD.out.2.2.1 e.symm)
          have q5 : UBO y g5 T := hv5.grown hgr (fun e => by injection e with e; exact HD.out.2.2.2.2.1 e.symm)
          rw [hnT] at q3
          exact reach1_any x s T A' (some ⟨g3, 0, none⟩) (some ⟨g5, 0, none⟩) c' s.length T.length B y.heap.size y.heap.size c6 c7 y q2 q3 hr (hu.rd0 hu.lt) (q5.rd0 q5.lt) (Nat.le_trans HB.out (Nat.le_trans hWv.size hgr.size)) (Nat.le_refl _) e.2.2 (fun z hz h => by rw [← hnT]; exact HOK.out.sin x hx z hz h) (by rw [hl]; exact HOK.out.lin x hx) (by have := (Gm.rule_in (HOK.out.rr x hx)).1; omega))
        (fun s x hx hl hd m hm => by rw [HT.out] at hm; exact Gm.brR_in HOK.out hx hd hm)
        (fun s x hx => Gm.brR_len T s x (Gm.rule_in (HOK.out.rr x hx)).1))
      have HX6 := hide (fun (y : World) (h : wv.grownBy y (some g3)) => kept_cell h u6 (fun e => HD.out.1 e.symm))
      have HFIN : Hid (∀ (y : World) (s : List Bool), Grw wv y g3 G.ns.length (Gm.Rc G) ((List.replicate G.ns.length false).set G.st.toNat true) s → (∀ x ∈ G.rs, ∀ m ∈ Gm.brR T s x, s.getD m.toNat false = true) → s = Gm.rc G ∧ Below w.heap.size w y) := hide (fun y s hg hc => ⟨Gm.rc_of HOK.out hg.l hg.d hg.le (by rw [HT.out] at hc; exact hc), below_only hWv hg.g (Nat.le_trans hdw HD.out.2.2.2.2.2.1) hWv.size⟩)
      have lv : w.heap.size < wv.heap.size := Nat.lt_of_lt_of_le hd1 hbv.size
      have l6v : c6 < wv.heap.size := block_lt_of_cell u6
      have HG3 := hide (Nat.le_trans hdw HD.out.2.2.2.2.2.1)
      clear hv3 hv5 hv6 hv7 hwv hbv u7 hRv hWv hm2 hBg hnT r2 r3 k3 f3 l3 k6 l6 ld hst hst1 hg3 HD HT HTl H3 H2
      go_wp2_with fail
      refine HGR.out.mono ?_; rintro _ w4 ⟨rfl, s, hg4, hc4⟩
      obtain ⟨e4, hb4⟩ := HFIN.out w4 s hg4 hc4
      have ck4 := HX6.out w4 hg4.g
      have hu4 := hide hg4.u
      have HB4 := hide hb4
      have hl4 : c6 < w4.heap.size := block_lt_of_cell ck4
      clear hg4 hc4 hb4 HGR HFIN HX6 u6 u2
      go_wp2
      go_ret
      subst e4
      exact ⟨fun _ => ⟨g3, by rw [Gm.rc_len]; rfl, HG3.out, hu4.out, HB4.out⟩, fun h => by simp at h⟩
end Go.Proofs.YtajcegofflmoeaaGreatDoor

namespace Go.Proofs.YtajcegofflmoeaaGreatDoor
set_option maxRecDepth 100000
open Go.RowKit

def CyKn (G : Gm.Gr) (w : World) (e : Ending) (w' : World) : Prop := e = .returned (.agg #[.int .u32 (Gm.ths (Gm.gn false G.rs G.ns.length) : Int), .int .u32 (Gm.ths (Gm.gn true G.rs G.ns.length) : Int)]) ∧ Below w.heap.size w w'
set_option maxHeartbeats 8000000 in
theorem cKnown_any (v : Value) (G : Gm.Gr) (B : Nat) (w : World) (hg : RdGr w B v G) (hf : Gm.Fit G) (hok : Gm.Ok G) (hB : B ≤ w.heap.size) :
    Calls Tryz.prog 30 #[v] w (CyKn G w) := by
  have HNU := hide (fun (x : World) (h : Below w.heap.size w x) => (show Calls _ _ _ _ (RowT _ _) from (nullable_any v G B x (hg.below h hB) hf (Nat.le_trans hB h.size)).mono fun e w' k => k.1 (Gm.right_ok.2 hok)))
  have HPR := hide (fun (x : World) (h : Below w.heap.size w x) => (show Calls _ _ _ _ (RowT _ _) from (productive_any v G B x (hg.below h hB) hf (Nat.le_trans hB h.size)).mono fun e w' k => k.1 (Gm.right_ok.2 hok)))
  have h40 : G.ns.length ≤ 32 := by have := (Gm.nons_iff G).1 hok.n; omega
  unfold CyKn
  obtain ⟨nu, hnu⟩ : ∃ s, s = Gm.gn false G.rs G.ns.length := ⟨_, rfl⟩
  obtain ⟨pr, hpr⟩ : ∃ s, s = Gm.gn true G.rs G.ns.length := ⟨_, rfl⟩
  have hnl : nu.length ≤ 32 := by rw [hnu, Gm.gn_len]; exact h40
  have hpl : pr.length ≤ 32 := by rw [hpr, Gm.gn_len]; exact h40
  rw [← hnu] at HNU
  rw [← hpr] at HPR
  rw [← hnu, ← hpr]
  have HTN := hide (fun (x : World) (g : Nat) (hu : UBO x g nu) => those_any nu (some ⟨g, 0, none⟩) nu.length x.heap.size x (hu.rd0 hu.lt) (Nat.le_refl _) hnl)
  have HTP := hide (fun (x : World) (g : Nat) (hu : UBO x g pr) => those_any pr (some ⟨g, 0, none⟩) pr.length x.heap.size x (hu.rd0 hu.lt) (Nat.le_refl _) hpl)
  generalize Gm.ths nu = N at *
  generalize Gm.ths pr = P at *
  obtain ⟨AT, cT, AN, cN, AR, cR, rfl, _⟩ := hg
  obtain ⟨w2, hw2⟩ : ∃ y, y = (w.alloc (.cells #[.slice AT G.ts.length cT, .slice AN G.ns.length cN, .slice AR G.rs.length cR, .int .i64 G.st] 26)).alloc (.cells #[.int .u32 0, .int .u32 0] 54) := ⟨_, rfl⟩
  have hS0 := (One.start w #[.slice AT G.ts.length cT, .slice AN G.ns.length cN, .slice AR G.rs.length cR, .int .i64 G.st]).alloc (.cells #[.int .u32 0, .int .u32 0] 54)
  rw [← hw2] at hS0
  have HS0 := hide hS0
  have hrs : w2.heap[w.heap.size + 1]? = some (.cells #[.int .u32 0, .int .u32 0] 54 (0, 0)) := by rw [hw2]; have := heap_alloc_new (w.alloc (.cells #[.slice AT G.ts.length cT, .slice AN G.ns.length cN, .slice AR G.rs.length cR, .int .i64 G.st] 26)) (.cells #[.int .u32 0, .int .u32 0] 54); simpa using this
  have HRS := hide hrs
  have hgr : w2.heap[w.heap.size]? = some (.cells #[.slice AT G.ts.length cT, .slice AN G.ns.length cN, .slice AR G.rs.length cR, .int .i64 G.st] 26 (0, 0)) := (Below.block hS0 w.heap.size (by omega)).trans (heap_alloc_new w _)
  have HZ2 : Hid (w2.heap.size = w.heap.size + 2) := hide (by rw [hw2]; simp)
  have hd : w.heap.size < w2.heap.size := by rw [HZ2.out]; omega
  have HSB : Hid (∀ z, Below w2.heap.size w2 z → ∃ q : Calm.OnB w.heap.size w2, z = q.1) := hide (fun z hz => ⟨⟨z, hz.block _ hd⟩, rfl⟩)
  have HBW : Hid (∀ z, Below w2.heap.size w2 z → Below w.heap.size w z) := hide (fun z hz => (HS0.out.on hz).below)
  have HD : Hid (Below w2.heap.size w2 w2.drew) := hide (below_drewN (Below.refl _ _) 1)
  have q0 := fun y : Calm.OnB w.heap.size w2 => cell_of_row y.1 _ 0 _ _ _ (y.2.trans hgr)
  have q1 := fun y : Calm.OnB w.heap.size w2 => cell_of_row y.1 _ 1 _ _ _ (y.2.trans hgr)
  have q2 := fun y : Calm.OnB w.heap.size w2 => cell_of_row y.1 _ 2 _ _ _ (y.2.trans hgr)
  have q3 := fun y : Calm.OnB w.heap.size w2 => cell_of_row y.1 _ 3 _ _ _ (y.2.trans hgr)
  clear hf hok hB h40 hnl hpl hnu hpr hS0 hrs hgr
  go_enter Tryz.func30, Tryz.ntmps30
  go_upto_region 1 with fail
  rw [← hw2]
  clear hw2
  refine CalmN.region_tree (fun x => ∃ y : Calm.OnB w.heap.size w2, x = y.1) (.one [0, 3] 1 (.one [] 2 (.one [] 4 (.one [] 5 (.one [6] 7 (.fin [])))))) (by kernel_rfl) (by kernel_rfl) (fun _ _ d _ _ h => by cases d <;> exact h) ⟨⟨w2.drew, rfl⟩, rfl⟩ ?_
  simp only [CalmN.wpT, CalmN.wpSt, CalmN.pickOps, List.getElem?_toArray, List.getElem?_cons_zero, List.getElem?_cons_succ]
  repeat (go_big_quiet_step (fail))
  refine wpQuiet_nil ?_
  generalize w2.drew = wd at *
  clear q0 q1 q2 q3
  intro KK hKK
  rw [if_pos (by rfl)]
  go_wp2_with fail
  refine (HNU.out wd (HBW.out _ HD.out)).mono ?_; rintro _ v1 ⟨g1, rfl, _, hu, hb⟩
  have HV1 := hide (HD.out.trans (hb.mono HD.out.size))
  have HT1 := hide (HTN.out v1 g1 hu)
  clear hu hb
  go_wp2_with fail
  refine hKK _ _ (HSB.out _ HV1.out) (fun x => ∃ y : Calm.OnB w.heap.size w2, x = y.1) (fun _ h => h) (HSB.out _ HV1.out) ?_
  clear hKK
  refine wpQuiet_nil ?_
  intro KK hKK
  rw [if_pos (by rfl)]
  go_wp2_with fail
  refine HT1.out.mono ?_; rintro _ v2 ⟨rfl, hb⟩
  have HV2 := hide (HV1.out.trans (hb.mono HV1.out.size))
  clear hb
  go_wp2_with fail
  refine hKK _ _ (HSB.out _ HV2.out) (fun x => ∃ y : Calm.OnB w.heap.size w2, x = y.1) (fun _ h => h) (HSB.out _ HV2.out) ?_
  clear hKK
  refine wpQuiet_nil ?_
  intro KK hKK
  rw [if_pos (by rfl)]
  go_wp2_with fail
  refine (HPR.out v2 (HBW.out _ HV2.out)).mono ?_; rintro _ v3 ⟨g3, rfl, _, hu, hb⟩
  have HV3 := hide (HV2.out.trans (hb.mono HV2.out.size))
  have HT3 := hide (HTP.out v3 g3 hu)
  clear hu hb
  go_wp2_with fail
  refine hKK _ _ (HSB.out _ HV3.out) (fun x => ∃ y : Calm.OnB w.heap.size w2, x = y.1) (fun _ h => h) (HSB.out _ HV3.out) ?_
  clear hKK
  refine wpQuiet_nil ?_
  intro KK hKK
  rw [if_pos (by rfl)]
  go_wp2_with fail
  refine HT3.out.mono ?_; rintro _ v4 ⟨rfl, hb⟩
  have HV4 := hide (HV3.out.trans (hb.mono HV3.out.size))
  clear hb
  go_wp2_with fail
  refine hKK _ _ (HSB.out _ HV4.out) (fun x => ∃ y : Calm.OnB w.heap.size w2, x = y.1) (fun _ h => h) (HSB.out _ HV4.out) ?_
  clear hKK
  repeat (go_big_quiet_step (fail))
  refine wpQuiet_nil ?_
  have hr4 := (HV4.out.block (w.heap.size + 1) (by rw [HZ2.out]; omega)).trans HRS.out
  have f0 := frozen_of_row v4 _ 0 _ _ hr4
  have f1 := frozen_of_row v4 _ 1 _ _ hr4
  have k0 := cell_of_row v4 _ 0 _ _ _ hr4
  have k1 := cell_of_row v4 _ 1 _ _ _ hr4
  have l4 := (Array.getElem?_eq_some_iff.1 hr4).1
  intro KK hKK
  rw [if_pos (by rfl)]
  go_wp2_with fail
  obtain ⟨wy, hwy⟩ : ∃ y, y = (v4.setCell ⟨w.heap.size + 1, 0, none⟩ (.int .u32 (N : Int))).setCell ⟨w.heap.size + 1, 1, none⟩ (.int .u32 (P : Int)) := ⟨_, rfl⟩
  have hry : wy.heap[w.heap.size + 1]? = some (.cells #[.int .u32 (N : Int), .int .u32 (P : Int)] 54 (0, 0)) := by rw [hwy]; exact heap_setCell_same _ _ 1 _ _ _ (heap_setCell_same v4 _ 0 _ _ _ hr4)
  have HBY : Hid (Below w.heap.size w wy) := hide (by rw [hwy]; exact ((HBW.out _ HV4.out).setCell (p := ⟨w.heap.size + 1, 0, none⟩) (by simp) _).setCell (p := ⟨w.heap.size + 1, 1, none⟩) (by simp) _)
  have HSY : Hid (∃ q : Calm.OnB w.heap.size w2, wy = q.1) := hide ⟨⟨wy, by rw [hwy, Below.heap_setCell _ _ _ _ (by simp only; omega), Below.heap_setCell _ _ _ _ (by simp only; omega)]; exact HV4.out.block _ hd⟩, rfl⟩
  rw [← hwy]
  refine hKK _ _ HSY.out (fun x => ∃ y : Calm.OnB w.heap.size w2, x = y.1) (fun _ h => h) HSY.out ?_
  clear hKK k0 k1 f0 f1 l4 hr4 hwy
  refine wpQuiet_nil ?_
  have g0 := cell_of_row wy _ 0 _ _ _ hry
  have g1' := cell_of_row wy _ 1 _ _ _ hry
  have l4 := (Array.getElem?_eq_some_iff.1 hry).1
  go_wp2
  refine bodyPost_ret (v := .agg #[.int .u32 (N : Int), .int .u32 (P : Int)]) (by simp [results, Tryz.results30, go_sem, g0, g1']) rfl ?_
  exact ⟨rfl, HBY.out⟩

noncomputable def Gm.usG (G : Gm.Gr) : Nat := if Gm.right G = true then Gm.usf G else 0
set_option maxHeartbeats 8000000 in
theorem ofUse_any (v : Value) (G : Gm.Gr) (B : Nat) (w : World) (hg : RdGr w B v G) (hf : Gm.Fit G) (hB : B ≤ w.heap.size) :
    Calls Tryz.prog 28 #[v] w fun e w' => e = .returned (.int .u32 (Gm.usG G)) ∧ Below w.heap.size w w' := by
  have HPR := hide (fun (x : World) (h : Below w.heap.size w x) => (productive_any v G B x (hg.below h hB) hf (Nat.le_trans hB h.size)).mono fun e w' k => k.rd)
  have HRE := hide (fun (x : World) (h : Below w.heap.size w x) => (reachable_any v G B x (hg.below h hB) hf (Nat.le_trans hB h.size)).mono fun e w' k => k.rd)
  obtain ⟨pr, hpr⟩ : ∃ s, s = (if Gm.right G = true then Gm.gn true G.rs G.ns.length else []) := ⟨_, rfl⟩
  obtain ⟨re, hre⟩ : ∃ s, s = (if Gm.right G = true then Gm.rc G else []) := ⟨_, rfl⟩
  have hlen : pr.length ≤ 32 ∧ re.length ≤ 32 := by
    rw [hpr, hre]
    split
    · rename_i hr
      have := (Gm.nons_iff G).1 (Gm.right_ok.1 hr).n
      rw [Gm.gn_len, Gm.rc_len]; omega
    · simp
  have hus : Gm.usG G = Gm.ths pr &&& Gm.ths re := by
    rw [hpr, hre]
    unfold Gm.usG
    split
    · exact (Gm.ths_usf G).symm
    · rfl
  rw [← hpr] at HPR
  rw [← hre] at HRE
  rw [hus]
  have HTP := hide (fun (x : World) (A : Option Addr) (c : Nat) (hu : RdO x x.heap.size A pr) => those_any pr A c x.heap.size x hu (Nat.le_refl _) hlen.1)
  have HTR := hide (fun (x : World) (A : Option Addr) (c : Nat) (hu : RdO x x.heap.size A re) => those_any re A c x.heap.size x hu (Nat.le_refl _) hlen.2)
  have ho := u32_and_nat (Gm.ths pr) (Gm.ths re) (ths_lt hlen.1) (ths_lt hlen.2)
  generalize Gm.ths pr &&& Gm.ths re = R at *
  generalize Gm.ths pr = N at *
  generalize Gm.ths re = P at *
  obtain ⟨AT, cT, AN, cN, AR, cR, rfl, _⟩ := hg
  have HS0 := hide (One.start w #[.slice AT G.ts.length cT, .slice AN G.ns.length cN, .slice AR G.rs.length cR, .int .i64 G.st])
  obtain ⟨w2, hw2⟩ : ∃ y, y = w.alloc (.cells #[.slice AT G.ts.length cT, .slice AN G.ns.length cN, .slice AR G.rs.length cR, .int .i64 G.st] 26) := ⟨_, rfl⟩
  rw [← hw2] at HS0
  have hd : w.heap.size < w2.heap.size := HS0.out.size
  have q0 := fun y : Calm.On w2.heap.size w2 => (HS0.out.on y.2).c 0 _ rfl
  have q1 := fun y : Calm.On w2.heap.size w2 => (HS0.out.on y.2).c 1 _ rfl
  have q2 := fun y : Calm.On w2.heap.size w2 => (HS0.out.on y.2).c 2 _ rfl
  have q3 := fun y : Calm.On w2.heap.size w2 => (HS0.out.on y.2).c 3 _ rfl
  have HSB : Hid (∀ z, Below w2.heap.size w2 z → ∃ q : Calm.On w2.heap.size w2, z = q.1) := hide (fun z hz => ⟨⟨z, hz⟩, rfl⟩)
  have HBW : Hid (∀ z, Below w2.heap.size w2 z → Below w.heap.size w z) := hide (fun z hz => (HS0.out.on hz).below)
  have HD : Hid (Below w2.heap.size w2 w2.drew) := hide (below_drewN (Below.refl _ _) 1)
  clear hf hB hpr hre hus hlen
  go_enter Tryz.func28, Tryz.ntmps28
  go_upto_region 1 with fail
  rw [← hw2]
  clear hw2
  refine CalmN.region_tree (fun x => ∃ y : Calm.On w2.heap.size w2, x = y.1) (.one [0, 3] 1 (.one [] 2 (.one [] 4 (.one [] 5 (.fin [6, 7]))))) (by kernel_rfl) (by kernel_rfl) (fun _ _ d _ _ h => by cases d <;> exact h) ⟨⟨w2.drew, HD.out⟩, rfl⟩ ?_
  simp only [CalmN.wpT, CalmN.wpSt, CalmN.pickOps, List.getElem?_toArray, List.getElem?_cons_zero, List.getElem?_cons_succ]
  repeat (go_big_quiet_step (fail))
  refine wpQuiet_nil ?_
  generalize w2.drew = wd at *
  clear q0 q1 q2 q3
  intro KK hKK
  rw [if_pos (by rfl)]
  go_wp2_with fail
  refine (HPR.out wd (HBW.out _ HD.out)).mono ?_; rintro _ v1 ⟨A1, c1, rfl, hu, hb⟩
  have HV1 := hide (HD.out.trans (hb.mono HD.out.size))
  have HT1 := hide (HTP.out v1 A1 c1 hu)
  clear hu hb
  go_wp2_with fail
  refine hKK _ _ (HSB.out _ HV1.out) (fun x => ∃ y : Calm.On w2.heap.size w2, x = y.1) (fun _ h => h) (HSB.out _ HV1.out) ?_
  clear hKK
  refine wpQuiet_nil ?_
  intro KK hKK
  rw [if_pos (by rfl)]
  go_wp2_with fail
  refine HT1.out.mono ?_; rintro _ v2 ⟨rfl, hb⟩
  have HV2 := hide (HV1.out.trans (hb.mono HV1.out.size))
  clear hb
  go_wp2_with fail
  refine hKK _ _ (HSB.out _ HV2.out) (fun x => ∃ y : Calm.On w2.heap.size w2, x = y.1) (fun _ h => h) (HSB.out _ HV2.out) ?_
  clear hKK
  refine wpQuiet_nil ?_
  intro KK hKK
  rw [if_pos (by rfl)]
  go_wp2_with fail
  refine (HRE.out v2 (HBW.out _ HV2.out)).mono ?_; rintro _ v3 ⟨A3, c3, rfl, hu, hb⟩
  have HV3 := hide (HV2.out.trans (hb.mono HV2.out.size))
  have HT3 := hide (HTR.out v3 A3 c3 hu)
  clear hu hb
  go_wp2_with fail
  refine hKK _ _ (HSB.out _ HV3.out) (fun x => ∃ y : Calm.On w2.heap.size w2, x = y.1) (fun _ h => h) (HSB.out _ HV3.out) ?_
  clear hKK
  refine wpQuiet_nil ?_
  intro KK hKK
  rw [if_pos (by rfl)]
  go_wp2_with fail
  refine HT3.out.mono ?_; rintro _ v4 ⟨rfl, hb⟩
  have HV4 := hide (HV3.out.trans (hb.mono HV3.out.size))
  clear hb
  go_wp2_with fail
  refine hKK _ _ (HSB.out _ HV4.out) (fun x => ∃ y : Calm.On w2.heap.size w2, x = y.1) (fun _ h => h) (HSB.out _ HV4.out) ?_
  clear hKK
  repeat (go_big_quiet_step (fail))
  refine wpQuiet_nil ?_
  go_wp2
  go_ret
  exact ⟨rfl, HBW.out _ HV4.out⟩
end Go.Proofs.YtajcegofflmoeaaGreatDoor

namespace Go.Proofs.YtajcegofflmoeaaGreatDoor
set_option maxRecDepth 100000
open Go.RowKit

structure RuIn (nn : Nat) (x : Gm.Rl) : Prop where
  i : ∀ z ∈ x.r, Gm.In z
  n : ∀ z ∈ x.r, z < 0 → -1 - z < (nn : Int)
  l0 : 0 ≤ x.l
  l1 : x.l < (nn : Int)
  c : x.r.length ≤ 6
theorem ruIn {G : Gm.Gr} (hf : Gm.Fit G) (hok : Gm.Ok G) {x : Gm.Rl} (hx : x ∈ G.rs) : RuIn G.ns.length x :=
  ⟨(hf.r x hx).2.2, fun z hz h => hok.sin x hx z hz h, (hok.lin x hx).1, (hok.lin x hx).2, (Gm.rule_in (hok.rr x hx)).1⟩
def OnC3 (a g h : Nat) (w : World) : Type := {x : World // x.heap[a]? = w.heap[a]? ∧ x.heap[g]? = w.heap[g]? ∧ x.heap[h]? = w.heap[h]?}
instance (a g h : Nat) (w : World) : Nonempty (OnC3 a g h w) := ⟨⟨w, rfl, rfl, rfl⟩⟩
structure StR (w wr : World) (kp gs : Nat) (a : Array Value) (N P : Nat) (s : List Nat) : Prop where
  k : wr.heap[kp]? = some (.cells #[.int .u32 (N : Int), .int .u32 (P : Int)] 54 (0, 0))
  s : UBZ wr gs s
  o : One w a wr
theorem heap_kept {wx w' : World} {g : Nat} {o : Obj} (hb : Below wx.heap.size wx w') (h : wx.heap[g]? = some o) : w'.heap[g]? = some o := (hb.block g (Array.getElem?_eq_some_iff.1 h).1).trans h
theorem StR.below {w wr w' : World} {kp gs : Nat} {a : Array Value} {N P : Nat} {s : List Nat} (h : StR w wr kp gs a N P s) (hb : Below wr.heap.size wr w') : StR w w' kp gs a N P s := ⟨heap_kept hb h.k, h.s.below hb h.s.lt, h.o.on hb⟩
theorem StR.put {w wr : World} {kp gs : Nat} {a : Array Value} {N P : Nat} {s : List Nat} (h : StR w wr kp gs a N P s) (h1 : kp ≠ gs) (hw : w.heap.size + 1 ≤ gs) (m v : Nat) : StR w (wr.setCell ⟨gs, m, none⟩ (.int .u32 (v : Int))) kp gs a N P (s.set m v) :=
  ⟨(Below.heap_setCell wr ⟨gs, m, none⟩ _ _ (by simp only; exact h1)).trans h.k, h.s.set_ m v, Below.setCell (p := ⟨gs, m, none⟩) h.o hw _⟩
theorem Gm.st1_take {G : Gm.Gr} {i : Nat} (h : i < G.rs.length) (s : List Nat) : (G.rs.take (i + 1)).foldl (Gm.st1 G) s = Gm.st1 G ((G.rs.take i).foldl (Gm.st1 G) s) G.rs[i] := by
  rw [List.take_succ_eq_append_getElem h, List.foldl_append]; rfl
theorem Gm.toN_lt {nu pr : List Bool} {r : List Int} (h : ∀ z ∈ r, z < 0 → -1 - z < (32 : Int)) : Gm.toN nu pr r < 4294967296 := by
  unfold Gm.toN
  split
  · exact Gm.toK_lt h _ (Nat.le_refl _)
  · decide
theorem Gm.st_u32 {G : Gm.Gr} (hf : Gm.Fit G) (hok : Gm.Ok G) (h32 : G.ns.length ≤ 32) : ∀ (xs : List Gm.Rl) (s : List Nat), (∀ x ∈ xs, x ∈ G.rs) → Gm.U32 s → Gm.U32 (xs.foldl (Gm.st1 G) s)
  | [], _, _, h => h
  | x :: xs, s, hx, h => Gm.st_u32 hf hok h32 xs _ (fun y hy => hx y (List.mem_cons_of_mem _ hy)) (h.addN _ (Gm.toN_lt fun z hz h0 => by have := (ruIn hf hok (hx x (List.mem_cons_self ..))).n z hz h0; omega))

set_option maxHeartbeats 16000000 in
theorem cSteps_any (v : Value) (G : Gm.Gr) (B : Nat) (w : World) (hg : RdGr w B v G) (hf : Gm.Fit G) (hB : B ≤ w.heap.size) :
    Calls Tryz.prog 12 #[v] w (RowZm (Gm.right G) (Gm.stp G) w) := by
  have H1 := hide (fun (x : World) (h : Below w.heap.size w x) => gright_any v G B x (hg.below h hB) hf (Nat.le_trans hB h.size))
  have H2 := hide (fun (q : Gm.right G = true) (x : World) (h : Below w.heap.size w x) => cKnown_any v G B x (hg.below h hB) hf (Gm.right_ok.1 q) (Nat.le_trans hB h.size))
  obtain ⟨AT, cT, AN, cN, AR, cR, rfl, _, ⟨hlN, hmN⟩, ⟨hlR, hmR⟩, _, _, hR⟩ := hg
  have HS0 := hide (One.start w #[.slice AT G.ts.length cT, .slice AN G.ns.length cN, .slice AR G.rs.length cR, .int .i64 G.st])
  have HRl := hide hR
  have HB := hide hB
  have HFT := hide hf
  clear hf hR hB
  cases q : Gm.right G
  · rw [q] at H1
    clear q H2
    go_enter Tryz.func12, Tryz.ntmps12
    go_wp2_with fail
    refine (H1.out _ HS0.out.below).mono ?_; rintro _ w2 ⟨rfl, hb⟩
    have HB2 := hide (HS0.out.on hb)
    clear hb
    go_wp2
    go_ret
    exact ⟨fun h => by simp at h, fun _ => ⟨rfl, HB2.out.below⟩⟩
  · have H2 := hide (H2.out q)
    have HOK := hide (Gm.right_ok.1 q)
    have HN : Hid (G.ns.length ≤ 32) := hide (by have := (Gm.nons_iff G).1 HOK.out.n; omega)
    have HR40 : Hid (G.rs.length ≤ 40) := hide HOK.out.r40
    have hnn := HN.out
    have hlen : (G.ns.length : Int) ≤ 9223372036854775807 := by omega
    have hlen2 : (G.rs.length : Int) ≤ 9223372036854775807 := by have := HR40.out; omega
    unfold CyKn at H2
    rw [q] at H1
    have HTO := hide (fun (x : Gm.Rl) (hx : x ∈ G.rs) (A : Option Addr) (c B' : Nat) (y : World) (hr : RdI y B' A x.r) (hB' : B' ≤ y.heap.size) (hc : x.r.length ≤ c) => cto_any x.r (Gm.gn false G.rs G.ns.length) (Gm.gn true G.rs G.ns.length) A c B' y hr hB' (ruIn HFT.out HOK.out hx).i (fun z hz h => by rw [Gm.gn_len]; exact (ruIn HFT.out HOK.out hx).n z hz h) (by rw [Gm.gn_len, Gm.gn_len]) (by rw [Gm.gn_len]; exact HN.out) (by have := (ruIn HFT.out HOK.out hx).c; omega) hc)
    generalize Gm.ths (Gm.gn false G.rs G.ns.length) = N at *
    generalize Gm.ths (Gm.gn true G.rs G.ns.length) = P at *
    have HTU := hide (fun (x : Gm.Rl) (hx : x ∈ G.rs) => Gm.toN_lt (nu := Gm.gn false G.rs G.ns.length) (pr := Gm.gn true G.rs G.ns.length) (r := x.r) (fun z hz h0 => by have := (ruIn HFT.out HOK.out hx).n z hz h0; omega))
    obtain ⟨s0, hs0⟩ : ∃ s, s = List.replicate G.ns.length 0 := ⟨_, rfl⟩
    have HS00 := hide hs0
    have HLS : Hid (∀ xs : List Gm.Rl, (xs.foldl (Gm.st1 G) s0).length = G.ns.length) := hide (fun xs => by rw [Gm.fold_len (Gm.st1_len G), hs0]; simp)
    have HUS : Hid (∀ i, Gm.U32 ((G.rs.take i).foldl (Gm.st1 G) s0)) := hide (fun i => Gm.st_u32 HFT.out HOK.out HN.out _ s0 (fun x hx => List.mem_of_mem_take hx) (by
      rw [hs0]; intro i
      rw [List.getD_eq_getElem?_getD, List.getElem?_replicate]; split <;> simp))
    have HSF : Hid (G.rs.foldl (Gm.st1 G) s0 = Gm.stp G) := hide (by rw [hs0]; exact Gm.st_all HOK.out)
    clear q hs0
    go_enter Tryz.func12, Tryz.ntmps12
    go_wp2_with fail
    refine (H1.out _ HS0.out.below).mono ?_; rintro _ w2 ⟨rfl, hb⟩
    have HQ2 := hide (HS0.out.on hb)
    have x0 := HQ2.out.c 0 _ rfl
    have x1 := HQ2.out.c 1 _ rfl
    have x2 := HQ2.out.c 2 _ rfl
    have x3 := HQ2.out.c 3 _ rfl
    have lg : w.heap.size < w2.heap.size := HQ2.out.size
    clear hb H1 HS0
    go_wp2_with fail
    refine (H2.out _ HQ2.out.below).mono ?_; rintro _ w3 ⟨rfl, hb⟩
    have HQ3 := hide (HQ2.out.on hb)
    clear hb H2 HQ2 x0 x1 x2 x3 lg
    go_upto_region 4 with fail
    obtain ⟨w4, hw4⟩ : ∃ y, y = w3.alloc (.cells #[.int .u32 (N : Int), .int .u32 (P : Int)] 54) := ⟨_, rfl⟩
    have HQ4 : Hid (One w #[.slice AT G.ts.length cT, .slice AN G.ns.length cN, .slice AR G.rs.length cR, .int .i64 G.st] w4) := hide (by rw [hw4]; exact HQ3.out.alloc _)
    have HK4 : Hid (w4.heap[w3.heap.size]? = some (.cells #[.int .u32 (N : Int), .int .u32 (P : Int)] 54 (0, 0))) := hide (by rw [hw4]; exact heap_alloc_new w3 _)
    have HL3 := hide HQ3.out.size
    have HL4 : Hid (w3.heap.size < w4.heap.size) := hide (by rw [hw4]; simp)
    rw [← hw4]
    clear hw4 HQ3
    generalize w3.heap.size = kp at *
    have x1 := HQ4.out.c 1 _ rfl
    have lg : w.heap.size < w4.heap.size := HQ4.out.size
    go_upto_region 5 with (at_make; refine mkU_arm rfl (.tmp 14) (.tmp 14) _ rfl Tryz.underlying34 G.ns.length _ _ rfl rfl rfl rfl (by omega) ?_; intro w5 hu hb hlt5)
    have HGN : Hid (kp ≠ w4.heap.size ∧ w.heap.size + 1 ≤ w4.heap.size) := hide ⟨by have := HL4.out; omega, lg⟩
    have HR5 : Hid (StR w w5 kp w4.heap.size #[.slice AT G.ts.length cT, .slice AN G.ns.length cN, .slice AR G.rs.length cR, .int .i64 G.st] N P s0) := hide ⟨heap_kept hb HK4.out, by rw [HS00.out]; unfold UBZ; rw [zi_rep]; exact hu, HQ4.out.on hb⟩
    clear hu hb hlt5 HQ4 HK4 x1 lg HL3 HL4
    generalize w4.heap.size = gs at *
    have x2 := HR5.out.o.c 2 _ rfl
    have lg : w.heap.size < w5.heap.size := HR5.out.o.size
    go_wp2
    clear x2 lg
    go_loopw [19] (fun vi wr => ∃ i : Nat, i ≤ G.rs.length ∧ vi = .int .i64 i ∧ Hid (StR w wr kp gs #[.slice AT G.ts.length cT, .slice AN G.ns.length cN, .slice AR G.rs.length cR, .int .i64 G.st] N P ((G.rs.take i).foldl (Gm.st1 G) s0))) (fun vi _ => G.rs.length - (intOf vi).toNat)
    case atStart => exact ⟨0, Nat.zero_le _, rfl, HR5⟩
    case round =>
      clear HR5
      obtain ⟨i, hi, rfl, HWI⟩ := hrel
      obtain ⟨wi, hwi⟩ : ∃ wi : World, wi = wr := ⟨_, rfl⟩
      subst hwi
      by_cases hlt2 : i < G.rs.length
      · obtain ⟨g, o, rfl, hgB, hc⟩ := HRl.out (by omega)
        obtain ⟨k0, ⟨A', c', k1, hlc, _, hri⟩, k2⟩ := hc i hlt2
        have hgw : g < w.heap.size := Nat.lt_of_lt_of_le hgB HB.out
        have k0 := (HWI.out.o.below.cell (p := ⟨g, o + i * 3, none⟩) hgw).trans k0
        have k1 := (HWI.out.o.below.cell (p := ⟨g, o + i * 3 + 1, none⟩) hgw).trans k1
        have k2 := (HWI.out.o.below.cell (p := ⟨g, o + i * 3 + 2, none⟩) hgw).trans k2
        have hgs : g < wi.heap.size := by have := HWI.out.o.size; omega
        have hxm : G.rs[i] ∈ G.rs := List.getElem_mem hlt2
        have HXI := hide (ruIn HFT.out HOK.out hxm)
        have HTX := hide (fun (y : World) (h : Below w.heap.size w y) => HTO.out G.rs[i] hxm A' c' B y (hri.below h HB.out) (Nat.le_trans HB.out h.size) hlc)
        have HTUX := HTU.out G.rs[i] hxm
        have HTK := hide (Gm.st1_take hlt2 s0)
        have HCL := hide (HLS.out (G.rs.take i))
        have HCU := hide (HUS.out i)
        have HNX : Hid (∀ s, Gm.st1 G s G.rs[i] = s.set (G.rs[i]).l.toNat (s.getD (G.rs[i]).l.toNat 0 ||| Gm.toN (Gm.gn false G.rs G.ns.length) (Gm.gn true G.rs G.ns.length) (G.rs[i]).r)) := hide (fun _ => rfl)
        generalize (G.rs.take i).foldl (Gm.st1 G) s0 = cur at *
        generalize G.rs[i] = x at *
        obtain ⟨l, r, p⟩ := x
        obtain ⟨m, rfl⟩ : ∃ m : Nat, l = (m : Int) := ⟨l.toNat, by have := HXI.out.l0; simp only at this; omega⟩
        simp only [Int.toNat_natCast] at k0 k1 k2 hlc HTX HTUX HNX
        have hmn : m < G.ns.length := by have := HXI.out.l1; simp only at this; omega
        have hmi1 : (m : Int) < (G.ns.length : Int) := by omega
        have HX : Hid ((G.rs.take (i + 1)).foldl (Gm.st1 G) s0 = cur.set m (cur.getD m 0 ||| Gm.toN (Gm.gn false G.rs G.ns.length) (Gm.gn true G.rs G.ns.length) r)) := hide (by rw [HTK.out, HNX.out])
        generalize Gm.toN (Gm.gn false G.rs G.ns.length) (Gm.gn true G.rs G.ns.length) r = vv at *
        have ho := u32_or_nat (cur.getD m 0) vv (HCU.out m) HTUX
        have HCM : Hid (m < cur.length) := hide (by rw [HCL.out]; exact hmn)
        generalize cur.getD m 0 ||| vv = v2 at *
        generalize hv1 : cur.getD m 0 = v1 at *
        have HV1 := hide hv1
        clear hv1 HTUX
        obtain ⟨wb, hwb⟩ : ∃ y, y = wi.alloc (.cells #[.int .i64 m, .slice A' r.length c', .int .i64 p] 51) := ⟨_, rfl⟩
        have HBX : Hid (wb.heap[wi.heap.size]? = some (.cells #[.int .i64 m, .slice A' r.length c', .int .i64 p] 51 (0, 0))) := hide (by rw [hwb]; exact heap_alloc_new wi _)
        have HRB : Hid (StR w wb kp gs #[.slice AT G.ts.length cT, .slice AN G.ns.length cN, .slice (some ⟨g, o, none⟩) G.rs.length cR, .int .i64 G.st] N P cur) := hide (HWI.out.below (by rw [hwb]; exact (Below.refl _ wi).alloc (Nat.le_refl _) _))
        have HNE : Hid (gs ≠ wi.heap.size) := hide (by have := HWI.out.s.lt; omega)
        clear hc hri hlc hxm hmn HTK HNX
        go_upto_region 8 with fail
        rw [← hwb]
        clear hwb k0 k1 k2 HWI hgs
        generalize wi.heap.size = bx at *
        have HLX : Hid (bx < wb.heap.size) := hide (Array.getElem?_eq_some_iff.1 HBX.out).1
        have HLK : Hid (kp < wb.heap.size) := hide (Array.getElem?_eq_some_iff.1 HRB.out.k).1
        have q0 := fun z : OnC3 bx kp bx wb => cell_of_row z.1 _ 0 _ _ _ (z.2.1.trans HBX.out)
        have q1 := fun z : OnC3 bx kp bx wb => cell_of_row z.1 _ 1 _ _ _ (z.2.1.trans HBX.out)
        have q5 := fun z : OnC3 bx kp bx wb => cell_of_row z.1 _ 0 _ _ _ (z.2.2.1.trans HRB.out.k)
        have q6 := fun z : OnC3 bx kp bx wb => cell_of_row z.1 _ 1 _ _ _ (z.2.2.1.trans HRB.out.k)
        have HRD : Hid (StR w wb.drew kp gs #[.slice AT G.ts.length cT, .slice AN G.ns.length cN, .slice (some ⟨g, o, none⟩) G.rs.length cR, .int .i64 G.st] N P cur) := hide ⟨HRB.out.k, HRB.out.s, HRB.out.o.drewN 1⟩
        have HED : Hid (∀ i : Nat, wb.drew.heap[i]? = wb.heap[i]?) := hide (fun _ => rfl)
        have HZD : Hid (wb.drew.heap.size = wb.heap.size) := hide rfl
        have hS : ∃ z : OnC3 bx kp bx wb, wb.drew = z.1 := ⟨⟨wb.drew, rfl, rfl, rfl⟩, rfl⟩
        have kmd : wb.drew.cell? ⟨gs, m, none⟩ = some (.int .u32 (v1 : Int)) := by rw [HRD.out.s.cell m HCM.out, HV1.out]
        refine CalmN.region_tree (fun x => ∃ z : OnC3 bx kp bx wb, x = z.1) (.two [0, 1, 2, 3, 5, 6, 7] 4 (.one [] 8 (.one [9, 10] 11 (.fin []))) 8 (.one [] 4 (.one [9, 10] 11 (.fin [])))) (by kernel_rfl) (by kernel_rfl) (fun _ _ d _ _ h => by cases d <;> exact h) ⟨⟨wb.drew, rfl, rfl, rfl⟩, rfl⟩ ?_
        rw [CalmN.wpT]
        simp only [CalmN.pickOps, List.getElem?_toArray, List.getElem?_cons_zero, List.getElem?_cons_succ]
        repeat (go_big_quiet_step (fail))
        generalize wb.drew = wd at *
        clear q0 q1 q5 q6
        refine wpQuiet_nil ⟨?_, ?_⟩
        case' refine_1 =>
          simp only [CalmN.wpT, CalmN.wpSt, CalmN.pickOps, List.getElem?_toArray, List.getElem?_cons_zero, List.getElem?_cons_succ]
          intro KK hKK
          rw [if_pos (by rfl)]
          go_wp2_with fail
          refine hKK _ _ hS (fun x => ∃ z : OnC3 bx kp bx wb, x = z.1) (fun _ h => h) hS ?_
          clear hKK
          refine wpQuiet_nil ?_
          intro KK hKK
          rw [if_pos (by rfl)]
          go_wp2_with fail
          refine (HTX.out wd HRD.out.o.below).mono ?_; rintro _ we ⟨rfl, hb⟩
          have HRE := hide (HRD.out.below hb)
          have HBE := hide (And.intro ((hb.block bx (by rw [HZD.out]; exact HLX.out)).trans (HED.out _)) ((hb.block kp (by rw [HZD.out]; exact HLK.out)).trans (HED.out _)))
          have hS : ∃ z : OnC3 bx kp bx wb, we = z.1 := ⟨⟨we, HBE.out.1, HBE.out.2, HBE.out.1⟩, rfl⟩
          have km := HRE.out.s.cell m HCM.out
          rw [HV1.out] at km
          have fm := HRE.out.s.frozen m
          have lu := HRE.out.s.lt
          clear hb
          go_wp2_with fail
          refine hKK _ _ hS (fun x => ∃ z : OnC3 bx kp bx wb, x = z.1) (fun _ h => h) hS ?_
          clear hKK
        case' refine_2 =>
          simp only [CalmN.wpT, CalmN.wpSt, CalmN.pickOps, List.getElem?_toArray, List.getElem?_cons_zero, List.getElem?_cons_succ]
          intro KK hKK
          rw [if_pos (by rfl)]
          go_wp2_with fail
          refine (HTX.out wd HRD.out.o.below).mono ?_; rintro _ we ⟨rfl, hb⟩
          have HRE := hide (HRD.out.below hb)
          have HBE := hide (And.intro ((hb.block bx (by rw [HZD.out]; exact HLX.out)).trans (HED.out _)) ((hb.block kp (by rw [HZD.out]; exact HLK.out)).trans (HED.out _)))
          have hS : ∃ z : OnC3 bx kp bx wb, we = z.1 := ⟨⟨we, HBE.out.1, HBE.out.2, HBE.out.1⟩, rfl⟩
          have km := HRE.out.s.cell m HCM.out
          rw [HV1.out] at km
          have fm := HRE.out.s.frozen m
          have lu := HRE.out.s.lt
          clear hb
          go_wp2_with fail
          refine hKK _ _ hS (fun x => ∃ z : OnC3 bx kp bx wb, x = z.1) (fun _ h => h) hS ?_
          clear hKK
          refine wpQuiet_nil ?_
          intro KK hKK
          rw [if_pos (by rfl)]
          go_wp2_with fail
          refine hKK _ _ hS (fun x => ∃ z : OnC3 bx kp bx wb, x = z.1) (fun _ h => h) hS ?_
          clear hKK
        all_goals
          repeat (go_big_quiet_step (fail))
          refine wpQuiet_nil ?_
          obtain ⟨wf, hwf⟩ : ∃ y, y = we.setCell ⟨gs, m, none⟩ (.int .u32 (v2 : Int)) := ⟨_, rfl⟩
          have HRF : Hid (StR w wf kp gs #[.slice AT G.ts.length cT, .slice AN G.ns.length cN, .slice (some ⟨g, o, none⟩) G.rs.length cR, .int .i64 G.st] N P ((G.rs.take (i + 1)).foldl (Gm.st1 G) s0)) := hide (by rw [hwf, HX.out]; exact HRE.out.put HGN.out.1 HGN.out.2 m v2)
          have HBF : Hid (wf.heap[bx]? = wb.heap[bx]? ∧ wf.heap[kp]? = wb.heap[kp]?) := hide (by rw [hwf]; exact ⟨(Below.heap_setCell we ⟨gs, m, none⟩ _ _ (fun e => HNE.out e.symm)).trans HBE.out.1, (Below.heap_setCell we ⟨gs, m, none⟩ _ _ HGN.out.1).trans HBE.out.2⟩)
          have hS2 : ∃ z : OnC3 bx kp bx wb, wf = z.1 := ⟨⟨wf, HBF.out.1, HBF.out.2, HBF.out.1⟩, rfl⟩
          intro KK hKK
          rw [if_pos (by rfl)]
          go_wp2_with fail
          rw [← hwf]
          refine hKK _ _ hS2 (fun x => ∃ z : OnC3 bx kp bx wb, x = z.1) (fun _ h => h) hS2 ?_
          clear hKK hwf hS2
          refine wpQuiet_nil ?_
          clear HRE HBE HBF HRD HED HZD km fm lu hS
          go_wp2
          go_roundw
          case rel => exact ⟨i + 1, hlt2, by go_num, HRF⟩
          case measure => simp [intOf]; omega
      · obtain rfl : i = G.rs.length := by omega
        rw [List.take_length, HSF.out] at HWI
        have HSL : Hid ((Gm.stp G).length = G.ns.length) := hide (Gm.stp_len G)
        go_wp2
        go_ret
        exact ⟨fun _ => ⟨gs, by rw [HSL.out]; rfl, by have := HGN.out.2; omega, HWI.out.s, HWI.out.o.below⟩, fun h => by simp at h⟩
end Go.Proofs.YtajcegofflmoeaaGreatDoor

namespace Go.Proofs.YtajcegofflmoeaaGreatDoor
set_option maxRecDepth 100000
open Go.RowKit

set_option maxHeartbeats 400000 in
theorem cloneU_any (A : Option Addr) (c B : Nat) (zs : List Int) (w : World) (hr : RdU w B A zs) (_hl : zs.length ≤ 1000000000) (hB : B ≤ w.heap.size) :
    Calls Tryz.prog 59 #[.slice A zs.length c] w (GotU zs w) := by
  have hr1 := hide (hr.alloc hB (.cells #[] 36))
  have heq := fun W => Lib.run_eql_slice_nil (P := Tryz.prog) W 34 36 A zs.length c 0 0 Tryz.underlying34
  rcases A with _ | ad
  · have hz : zs = [] := by
      rcases Nat.eq_zero_or_pos zs.length with h0 | h0
      · exact List.eq_nil_of_length_eq_zero h0
      · obtain ⟨g, o', h, _⟩ := hr (by omega); cases h
    subst hz
    have heq' := fun W => Lib.run_eql_slice_nil (P := Tryz.prog) W 34 36 none 0 c 0 0 Tryz.underlying34
    clear hr heq
    go_enter Tryz.func59, Tryz.ntmps59
    go_wp2
    go_ret
    exact ⟨_, rfl, OwnU.nil _ _, Below.refl _ _⟩
  · clear hr
    go_enter Tryz.func59, Tryz.ntmps59
    go_wp2_with (at_builtin; refine apnU_arm rfl (.tmp 5) (.tmp 6) _ rfl Tryz.underlying34 w.heap.size _ [] rfl (ownU_empty w) B zs.length c (some ad) zs rfl rfl hr1.out (by simp; omega) (by simp) ?_; intro v' w' h1 h2)
    go_ret
    exact ⟨_, rfl, h1, below_grownU ((Below.refl _ _).alloc (Nat.le_refl _) _) (ownU_empty w) h2 (by simp)⟩

theorem Gm.fold_u32 (via : Nat) : ∀ (xs : List Nat) (s : List Nat), Gm.U32 s → Gm.U32 (xs.foldl (fun s m => Gm.cl1 m s via) s)
  | [], _, h => h
  | x :: xs, _, h => Gm.fold_u32 via xs _ (fun i => Gm.cl1_u32 h x via i)
theorem Gm.wa_u32 (n : Nat) {s : List Nat} (h : Gm.U32 s) : ∀ v, Gm.U32 (Gm.wa n s v)
  | 0 => h
  | v + 1 => by rw [Gm.wa_next]; exact Gm.fold_u32 v _ _ (Gm.wa_u32 n h v)
def Gm.waM (s : List Nat) (via m : Nat) : List Nat := (List.range m).foldl (fun s m => Gm.cl1 m s via) s
theorem Gm.waM_next (s : List Nat) (via m : Nat) : Gm.waM s via (m + 1) = Gm.cl1 m (Gm.waM s via m) via := by unfold Gm.waM; rw [List.range_succ, List.foldl_append]; rfl
theorem Gm.waM_len (s : List Nat) (via m : Nat) : (Gm.waM s via m).length = s.length := Gm.fold_len (fun s m => Gm.cl1_len m s via) _ s
theorem OwnU.cellZ {w : World} {base g n c : Nat} {s : List Nat} (h : OwnU w base (.slice (some ⟨g, 0, none⟩) n c) (zi s)) (hn : n = s.length) (j : Nat) (hj : j < s.length) : w.cell? ⟨g, j, none⟩ = some (.int .u32 ((s.getD j 0 : Nat) : Int)) := by
  have := OwnU.cellAt h (by rw [zi_len]; exact hn) j (by rw [zi_len]; exact hj)
  rwa [zi_get] at this
theorem OwnU.storedZ {w : World} {base g n c : Nat} {s : List Nat} (h : OwnU w base (.slice (some ⟨g, 0, none⟩) n c) (zi s)) (hn : n = s.length) (j v : Nat) : OwnU (w.setCell ⟨g, j, none⟩ (.int .u32 (v : Int))) base (.slice (some ⟨g, 0, none⟩) n c) (zi (s.set j v)) := by
  have := OwnU.stored h (by rw [zi_len]; exact hn) j (v : Int)
  rwa [zi_set] at this

set_option maxHeartbeats 8000000 in
theorem walks_any (s0 : List Nat) (A : Option Addr) (c B : Nat) (w : World) (hr : RdZ w B A s0) (hB : B ≤ w.heap.size) (h32 : s0.length ≤ 32) (hu : Gm.U32 s0) :
    Calls Tryz.prog 35 #[.slice A s0.length c] w (RowZs (Gm.wa s0.length s0 s0.length) w) := by
  have HC := hide (cloneU_any A c B (zi s0) w hr (by rw [zi_len]; omega) hB)
  rw [zi_len] at HC
  have HU := hide (fun v => Gm.wa_u32 s0.length hu v)
  have HWL := hide (fun v => Gm.wa_len s0.length s0 v)
  have HWN := hide (fun v => Gm.wa_next s0.length s0 v)
  have HW0 : Hid (Gm.wa s0.length s0 0 = s0) := hide rfl
  have HH := hide (fun (s : Nat) (n : Int) (w : World) (hs : s < 4294967296) => shas_any s n w hs)
  have hlen : (s0.length : Int) ≤ 9223372036854775807 := by omega
  have H32 := hide h32
  clear hr hB h32 hu
  unfold RowZs
  rw [HWL.out]
  obtain ⟨n, hn⟩ : ∃ n, n = s0.length := ⟨_, rfl⟩
  rw [← hn] at HC HU HWL HWN HW0 hlen H32 ⊢
  clear hn
  go_enter Tryz.func35, Tryz.ntmps35
  go_wp2_with fail
  refine HC.out.mono ?_; rintro _ w2 ⟨v, rfl, ho, hb⟩
  have HO := hide ho
  have HB2 := hide hb
  clear ho hb
  have HO := hide (show OwnU w2 w.heap.size v (zi (Gm.wa n s0 0)) by rw [HW0.out]; exact HO.out)
  by_cases h0 : n = 0
  · obtain ⟨A', c', rfl, _, _, hr'⟩ := HO.out.form
    have HR' := hide hr'
    have hl : (zi (Gm.wa n s0 0)).length = 0 := by rw [zi_len, HWL.out]; exact h0
    rw [hl]
    subst h0
    clear hl hr' HC
    go_wp2
    go_loopw [10] (fun vi wr => vi = .int .i64 0 ∧ Hid (wr = w2)) (fun _ _ => 0)
    case atStart => exact ⟨rfl, hide rfl⟩
    case round =>
      obtain ⟨rfl, HE⟩ := hrel
      go_wp2
      go_ret
      rw [HE.out]
      exact ⟨_, _, rfl, HR'.out, HB2.out⟩
  · obtain ⟨g, c', rfl, h1, h2, h3⟩ := HO.out.addr (by rw [zi_len, HWL.out]; exact h0)
    rw [zi_len, HWL.out] at HO h1 ⊢
    clear HC h1 h2
    have HG := hide h3
    clear h3
    go_wp2
    go_loopw [10] (fun vi wr => ∃ via : Nat, via ≤ n ∧ vi = .int .i64 via ∧ Hid (OwnU wr w.heap.size (.slice (some ⟨g, 0, none⟩) n c') (zi (Gm.wa n s0 via))) ∧ Hid (Below w.heap.size w wr)) (fun vi _ => n - (intOf vi).toNat)
    case atStart => exact ⟨0, Nat.zero_le _, rfl, HO, HB2⟩
    case round =>
      clear HO HB2
      obtain ⟨via, hv, rfl, HOv, HBv⟩ := hrel
      obtain ⟨wo, hwo⟩ : ∃ wo : World, wo = wr := ⟨_, rfl⟩
      subst hwo
      by_cases hlt : via < n
      · have HN := hide (HWN.out via)
        have HUv := hide (HU.out via)
        have HLv := hide (HWL.out via)
        generalize Gm.wa n s0 via = cur at *
        have HRM := hide (fun m => Gm.waM_next cur via m)
        have HRL := hide (fun m => (Gm.waM_len cur via m).trans HLv.out)
        have HRU := hide (fun m => (show Gm.U32 (Gm.waM cur via m) from Gm.fold_u32 via _ _ HUv.out))
        have HOm : Hid (OwnU wo w.heap.size (.slice (some ⟨g, 0, none⟩) n c') (zi (Gm.waM cur via 0))) := HOv
        clear HOv
        go_wp2
        go_loopw [15] (fun vm wr => ∃ m : Nat, m ≤ n ∧ vm = .int .i64 m ∧ Hid (OwnU wr w.heap.size (.slice (some ⟨g, 0, none⟩) n c') (zi (Gm.waM cur via m))) ∧ Hid (Below w.heap.size w wr)) (fun vm _ => n - (intOf vm).toNat)
        case atStart => exact ⟨0, Nat.zero_le _, rfl, HOm, HBv⟩
        case round =>
          clear HOm HBv
          obtain ⟨m, hm, rfl, HOm, HBm⟩ := hrel
          by_cases hlt2 : m < n
          · have HNx := hide (HRM.out m)
            have HLx := hide (HRL.out m)
            have HUx := hide (HRU.out m)
            generalize Gm.waM cur via m = s at *
            have hgs : g < wr.heap.size := by
              have := OwnU.form HOm.out
              exact block_lt_of_cell (HOm.out.cellZ HLx.out.symm m (by rw [HLx.out]; exact hlt2))
            have km := HOm.out.cellZ HLx.out.symm m (by rw [HLx.out]; exact hlt2)
            have kv := HOm.out.cellZ HLx.out.symm via (by rw [HLx.out]; exact hlt)
            have fm := OwnU.frozenAt HOm.out (by rw [zi_len]; exact HLx.out.symm) m
            have HHm := hide (HH.out (s.getD m 0) via wr (HUx.out m))
            rw [S.has_nat _ (by have := H32.out; omega)] at HHm
            have HSt := hide (HOm.out.storedZ HLx.out.symm m (s.getD m 0 ||| s.getD via 0))
            have HCL : Hid (Gm.cl1 m s via = if (s.getD m 0).testBit via = true then s.set m (s.getD m 0 ||| s.getD via 0) else s) := hide rfl
            have ho := u32_or_nat (s.getD m 0) (s.getD via 0) (HUx.out m) (HUx.out via)
            generalize s.getD m 0 ||| s.getD via 0 = d3 at *
            generalize (s.getD m 0).testBit via = b at *
            generalize s.getD m 0 = d1 at *
            generalize s.getD via 0 = d2 at *
            cases b
            · have HE := hide (HNx.out.trans (HCL.out.trans (if_neg (by simp))))
              clear HSt HCL HNx
              go_wp2_with fail
              refine HHm.out.mono ?_; rintro _ _ ⟨rfl, rfl⟩
              go_wp2
              go_roundw
              case rel => exact ⟨m + 1, hlt2, by go_num, by rw [HE.out]; exact HOm, HBm⟩
              case measure => simp [intOf]; omega
            · have HE := hide (HNx.out.trans (HCL.out.trans (if_pos rfl)))
              clear HCL HNx
              go_wp2_with fail
              refine HHm.out.mono ?_; rintro _ wr ⟨rfl, rfl⟩
              go_upto_region 9 with fail
              have cm : wr.drew.cell? ⟨g, m, none⟩ = some (.int .u32 (d1 : Int)) := km
              have cv : wr.drew.cell? ⟨g, via, none⟩ = some (.int .u32 (d2 : Int)) := kv
              have fd : wr.drew.frozen? ⟨g, m, none⟩ = false := fm
              have HSd : Hid (OwnU (wr.drew.setCell ⟨g, m, none⟩ (.int .u32 (d3 : Int))) w.heap.size (.slice (some ⟨g, 0, none⟩) n c') (zi (s.set m d3))) := hide (OwnU.storedZ (w := wr.drew) (HOm.out.drewN 1) HLx.out.symm m d3)
              have HBd : Hid (Below w.heap.size w (wr.drew.setCell ⟨g, m, none⟩ (.int .u32 (d3 : Int)))) := hide ((below_drewN HBm.out 1).setCell (p := ⟨g, m, none⟩) HG.out _)
              have hgd : g < wr.drew.heap.size := hgs
              refine CalmN.region_tree (fun _ => True) (.two [0, 1, 2, 4, 5, 6] 3 (.one [] 7 (.one [8, 9] 10 (.fin []))) 7 (.one [] 3 (.one [8, 9] 10 (.fin [])))) (by kernel_rfl) (by kernel_rfl) (fun _ _ d _ _ h => by cases d <;> exact h) trivial ?_
              generalize wr.drew = wd at *
              clear km kv fm hgs
              rw [CalmN.wpT]
              simp only [CalmN.pickOps, List.getElem?_toArray, List.getElem?_cons_zero, List.getElem?_cons_succ]
              repeat (go_big_quiet_step (fail))
              refine wpQuiet_nil ⟨?_, ?_⟩
              all_goals
                simp only [CalmN.wpT, CalmN.wpSt, CalmN.pickOps, List.getElem?_toArray, List.getElem?_cons_zero, List.getElem?_cons_succ]
                intro KK hKK
                rw [if_pos (by rfl)]
                go_wp2_with fail
                refine hKK _ _ trivial (fun _ => True) (fun _ h => h) trivial ?_
                clear hKK
                refine wpQuiet_nil ?_
                intro KK hKK
                rw [if_pos (by rfl)]
                go_wp2_with fail
                refine hKK _ _ trivial (fun _ => True) (fun _ h => h) trivial ?_
                clear hKK
                repeat (go_big_quiet_step (fail))
                refine wpQuiet_nil ?_
                intro KK hKK
                rw [if_pos (by rfl)]
                go_wp2_with fail
                refine hKK _ _ trivial (fun _ => True) (fun _ h => h) trivial ?_
                clear hKK
                refine wpQuiet_nil ?_
                go_wp2
                go_roundw
                case rel => exact ⟨m + 1, hlt2, by go_num, by rw [HE.out]; exact HSd, HBd⟩
                case measure => simp [intOf]; omega
          · obtain rfl : m = n := by omega
            have HE : Hid (Gm.waM cur via m = Gm.wa m s0 (via + 1)) := hide HN.out.symm
            rw [HE.out] at HOm
            go_wp2
            go_roundw
            case rel => exact ⟨via + 1, hlt, by go_num, HOm, HBm⟩
            case measure => simp [intOf]; omega
      · obtain rfl : via = n := by omega
        go_wp2
        go_ret
        obtain ⟨A', c2, e, _, _, hr'⟩ := HOv.out.form
        injection e with e1 e2 e3
        subst e1
        exact ⟨_, c', rfl, hr', HBv.out⟩
end Go.Proofs.YtajcegofflmoeaaGreatDoor

namespace Go.Proofs.YtajcegofflmoeaaGreatDoor
set_option maxRecDepth 100000
open Go.RowKit

noncomputable def Gm.cyG (G : Gm.Gr) : Nat := if Gm.right G = true then Gm.cyc G else 0
theorem Gm.cyG_lt {G : Gm.Gr} : Gm.cyG G < 4294967296 := by
  unfold Gm.cyG
  split
  · rename_i hr
    have := (Gm.nons_iff G).1 (Gm.right_ok.1 hr).n
    exact Gm.pow32 (Gm.cyc_lt G) (by omega)
  · decide
theorem Gm.usG_lt {G : Gm.Gr} : Gm.usG G < 4294967296 := by
  unfold Gm.usG
  split
  · rename_i hr
    have := (Gm.nons_iff G).1 (Gm.right_ok.1 hr).n
    exact Gm.pow32 (Gm.usf_lt G) (by omega)
  · decide
noncomputable def Gm.enB (G : Gm.Gr) : Bool := (((Gm.cyG G &&& Gm.usG G : Nat) : Int) != 0)
theorem Gm.enB_iff {G : Gm.Gr} (hr : Gm.right G = true) : Gm.enB G = true ↔ Gm.Endl G := by
  unfold Gm.enB Gm.cyG Gm.usG
  rw [if_pos hr, if_pos hr, bne_iff_ne, ← Gm.cyc_use (Gm.right_ok.1 hr)]
  omega
noncomputable def Gm.stG (G : Gm.Gr) : List Nat := if Gm.right G = true then Gm.stp G else []
theorem Gm.stG_len {G : Gm.Gr} : (Gm.stG G).length ≤ 16 := by
  unfold Gm.stG
  split
  · rename_i hr
    have := (Gm.nons_iff G).1 (Gm.right_ok.1 hr).n
    rw [Gm.stp_len]; omega
  · simp
theorem Gm.stG_u32 {G : Gm.Gr} : Gm.U32 (Gm.stG G) := by
  unfold Gm.stG
  split
  · rename_i hr
    have := (Gm.nons_iff G).1 (Gm.right_ok.1 hr).n
    exact fun i => Gm.stp_u32 (by omega) i
  · intro i; simp
theorem Gm.cyG_wa (G : Gm.Gr) : Gm.thB (fun i => ((Gm.wa (Gm.stG G).length (Gm.stG G) (Gm.stG G).length).getD i 0).testBit i) (Gm.stG G).length = Gm.cyG G := by
  unfold Gm.stG Gm.cyG
  split
  · rename_i hr
    rw [Gm.stp_len]
    exact Gm.thB_cyc (Gm.wa_bit (Gm.right_ok.1 hr))
  · rfl
theorem Gm.thB_and (s : List Nat) {k : Nat} (hk : k ≤ 31) : Gm.thB (fun i => (s.getD i 0).testBit i) (k + 1) = Gm.thB (fun i => (s.getD i 0).testBit i) k ||| (s.getD k 0 &&& S.bit k) := by
  rw [Gm.thB, S.bit_nat hk, Gm.and_two]
set_option maxHeartbeats 4000000 in
theorem cCycles_any (v : Value) (G : Gm.Gr) (B : Nat) (w : World) (hg : RdGr w B v G) (hf : Gm.Fit G) (hB : B ≤ w.heap.size) :
    Calls Tryz.prog 14 #[v] w fun e w' => e = .returned (.int .u32 (Gm.cyG G)) ∧ Below w.heap.size w w' := by
  have H1 := hide (fun (x : World) (h : Below w.heap.size w x) => (show Calls _ _ _ _ (RowZs (Gm.stG G) x) from (cSteps_any v G B x (hg.below h hB) hf (Nat.le_trans hB h.size)).mono fun e w' k => k.rd))
  have H2 := hide (fun (x : World) (A : Option Addr) (c : Nat) (hr : RdZ x x.heap.size A (Gm.stG G)) => walks_any (Gm.stG G) A c x.heap.size x hr (Nat.le_refl _) (by have := Gm.stG_len (G := G); omega) Gm.stG_u32)
  obtain ⟨AT, cT, AN, cN, AR, cR, rfl, _⟩ := hg
  have HS0 := hide (One.start w #[.slice AT G.ts.length cT, .slice AN G.ns.length cN, .slice AR G.rs.length cR, .int .i64 G.st])
  have HL16 := hide (Gm.stG_len (G := G))
  have HCE := hide (Gm.cyG_wa G)
  unfold RowZs at H1 H2
  rw [Gm.wa_len] at H2
  have HU := hide (Gm.wa_u32 (Gm.stG G).length (Gm.stG_u32 (G := G)) (Gm.stG G).length)
  have HW := hide (Gm.wa_len (Gm.stG G).length (Gm.stG G) (Gm.stG G).length)
  generalize Gm.wa (Gm.stG G).length (Gm.stG G) (Gm.stG G).length = W at *
  have HO := hide (fun n w => cOnly_any n w)
  have HTN := hide (fun k (hk : k ≤ 31) => Gm.thB_and W hk)
  have HTL := hide (fun k (hk : k ≤ 32) => Gm.pow32 (Gm.thB_lt (fun i => (W.getD i 0).testBit i) k) hk)
  obtain ⟨th, hth⟩ : ∃ f : Nat → Nat, f = Gm.thB (fun i => (W.getD i 0).testBit i) := ⟨_, rfl⟩
  have H0 : Hid (th 0 = 0) := hide (by rw [hth]; rfl)
  rw [← hth] at HTN HTL HCE
  generalize Gm.stG G = s0 at *
  generalize Gm.cyG G = cy at *
  have hlen : (s0.length : Int) ≤ 9223372036854775807 := by have := HL16.out; omega
  clear hf hB hth
  go_enter Tryz.func14, Tryz.ntmps14
  go_wp2_with fail
  refine (H1.out _ HS0.out.below).mono ?_; rintro _ w2 ⟨A1, c1, rfl, hr, hb⟩
  have HQ2 := hide (HS0.out.on hb)
  have H3 := hide (H2.out w2 A1 c1 hr)
  clear hb hr H1 H2 HS0
  go_wp2_with fail
  refine H3.out.mono ?_; rintro _ w3 ⟨A2, c2, rfl, hr, hb⟩
  have HQ3 := hide (HQ2.out.on hb)
  have HR := hide hr
  have HB3 := hide (show Below w3.heap.size w3 w3 from Below.refl _ _)
  clear hb hr H3 HQ2
  go_wp2
  go_loopw [3, 10] (fun vs vi wr => ∃ k : Nat, k ≤ s0.length ∧ vi = .int .i64 k ∧ vs = .int .u32 (th k) ∧ Hid (Below w3.heap.size w3 wr)) (fun _ vi _ => s0.length - (intOf vi).toNat)
  case atStart => exact ⟨0, Nat.zero_le _, rfl, by rw [H0.out]; rfl, HB3⟩
  case round =>
    clear HB3
    obtain ⟨k, hk, rfl, rfl, HWr⟩ := hrel
    by_cases hlt : k < s0.length
    · obtain ⟨g, o, rfl, hgb, hc⟩ := RdZ.addr HR.out (by rw [HW.out]; omega)
      have k0 := (HWr.out.cell (p := ⟨g, o + k, none⟩) hgb).trans (hc k (by rw [HW.out]; exact hlt))
      have HN := hide (HTN.out k (by have := HL16.out; omega))
      have HL := hide (HTL.out k (by have := HL16.out; omega))
      have HOk := hide (fun w => HO.out (k : Int) w)
      have HUk := hide (HU.out k)
      clear hc
      generalize W.getD k 0 = a at *
      generalize th k = s at *
      have ha := u32_and_nat a (S.bit (k : Int)) HUk.out (S.bit_lt _)
      have hal : a &&& S.bit (k : Int) < 4294967296 := Nat.lt_of_le_of_lt Nat.and_le_left HUk.out
      have HA := hide ha
      generalize a &&& S.bit (k : Int) = d at *
      have ho := hide (u32_or_nat s d HL.out hal)
      generalize S.bit (k : Int) = bt at *
      clear ha hal
      go_wp2_with fail
      refine (HOk.out _).mono ?_; rintro _ w4 ⟨rfl, hb⟩
      have HW4 := hide (HWr.out.trans (hb.mono HWr.out.size))
      clear hb
      go_wp2_with (rw [HA.out, ho.out])
      go_roundw
      case rel => exact ⟨k + 1, hlt, by go_num, by rw [HN.out], HW4⟩
      case measure => simp [intOf]; omega
    · obtain rfl : k = s0.length := by omega
      go_wp2
      go_ret
      exact ⟨by rw [HCE.out]; rfl, (HQ3.out.on HWr.out).below⟩

set_option maxHeartbeats 4000000 in
theorem cEndless_any (v : Value) (G : Gm.Gr) (B : Nat) (w : World) (hg : RdGr w B v G) (hf : Gm.Fit G) (hB : B ≤ w.heap.size) :
    Calls Tryz.prog 16 #[v] w fun e w' => e = .returned (.bool (Gm.enB G)) ∧ Below w.heap.size w w' := by
  have H1 := hide (fun (x : World) (h : Below w.heap.size w x) => cCycles_any v G B x (hg.below h hB) hf (Nat.le_trans hB h.size))
  have H2 := hide (fun (x : World) (h : Below w.heap.size w x) => ofUse_any v G B x (hg.below h hB) hf (Nat.le_trans hB h.size))
  have ho := u32_and_nat (Gm.cyG G) (Gm.usG G) Gm.cyG_lt Gm.usG_lt
  unfold Gm.enB
  generalize Gm.cyG G &&& Gm.usG G = R at *
  generalize Gm.cyG G = N at *
  generalize Gm.usG G = P at *
  obtain ⟨AT, cT, AN, cN, AR, cR, rfl, _⟩ := hg
  have HS0 := hide (One.start w #[.slice AT G.ts.length cT, .slice AN G.ns.length cN, .slice AR G.rs.length cR, .int .i64 G.st])
  obtain ⟨w2, hw2⟩ : ∃ y, y = w.alloc (.cells #[.slice AT G.ts.length cT, .slice AN G.ns.length cN, .slice AR G.rs.length cR, .int .i64 G.st] 26) := ⟨_, rfl⟩
  rw [← hw2] at HS0
  have hd : w.heap.size < w2.heap.size := HS0.out.size
  have q0 := fun y : Calm.On w2.heap.size w2 => (HS0.out.on y.2).c 0 _ rfl
  have q1 := fun y : Calm.On w2.heap.size w2 => (HS0.out.on y.2).c 1 _ rfl
  have q2 := fun y : Calm.On w2.heap.size w2 => (HS0.out.on y.2).c 2 _ rfl
  have q3 := fun y : Calm.On w2.heap.size w2 => (HS0.out.on y.2).c 3 _ rfl
  have HSB : Hid (∀ z, Below w2.heap.size w2 z → ∃ q : Calm.On w2.heap.size w2, z = q.1) := hide (fun z hz => ⟨⟨z, hz⟩, rfl⟩)
  have HBW : Hid (∀ z, Below w2.heap.size w2 z → Below w.heap.size w z) := hide (fun z hz => (HS0.out.on hz).below)
  have HD : Hid (Below w2.heap.size w2 w2.drew) := hide (below_drewN (Below.refl _ _) 1)
  clear hf hB
  go_enter Tryz.func16, Tryz.ntmps16
  go_upto_region 1 with fail
  rw [← hw2]
  clear hw2
  refine CalmN.region_tree (fun x => ∃ y : Calm.On w2.heap.size w2, x = y.1) (.one [0, 2] 1 (.one [] 3 (.fin [4, 5, 6]))) (by kernel_rfl) (by kernel_rfl) (fun _ _ d _ _ h => by cases d <;> exact h) ⟨⟨w2.drew, HD.out⟩, rfl⟩ ?_
  simp only [CalmN.wpT, CalmN.wpSt, CalmN.pickOps, List.getElem?_toArray, List.getElem?_cons_zero, List.getElem?_cons_succ]
  repeat (go_big_quiet_step (fail))
  refine wpQuiet_nil ?_
  generalize w2.drew = wd at *
  clear q0 q1 q2 q3
  intro KK hKK
  rw [if_pos (by rfl)]
  go_wp2_with fail
  refine (H1.out wd (HBW.out _ HD.out)).mono ?_; rintro _ v1 ⟨rfl, hb⟩
  have HV1 := hide (HD.out.trans (hb.mono HD.out.size))
  clear hb
  go_wp2_with fail
  refine hKK _ _ (HSB.out _ HV1.out) (fun x => ∃ y : Calm.On w2.heap.size w2, x = y.1) (fun _ h => h) (HSB.out _ HV1.out) ?_
  clear hKK
  refine wpQuiet_nil ?_
  intro KK hKK
  rw [if_pos (by rfl)]
  go_wp2_with fail
  refine (H2.out v1 (HBW.out _ HV1.out)).mono ?_; rintro _ v2 ⟨rfl, hb⟩
  have HV2 := hide (HV1.out.trans (hb.mono HV1.out.size))
  clear hb
  go_wp2_with fail
  refine hKK _ _ (HSB.out _ HV2.out) (fun x => ∃ y : Calm.On w2.heap.size w2, x = y.1) (fun _ h => h) (HSB.out _ HV2.out) ?_
  clear hKK
  repeat (go_big_quiet_step (fail))
  refine wpQuiet_nil ?_
  go_wp2
  go_ret
  exact ⟨rfl, HBW.out _ HV2.out⟩
end Go.Proofs.YtajcegofflmoeaaGreatDoor

namespace Go.Proofs.YtajcegofflmoeaaGreatDoor
set_option maxRecDepth 100000
open Go.RowKit

def Gm.ryL (st : List Nat) (there : Nat) (ls : List Int) : Nat := ls.foldl (fun s n => if Gm.subN (st.getD n.toNat 0) there = true then s ||| S.bit n else s) 0
theorem Gm.ryL_next (st : List Nat) (there : Nat) {ls : List Int} {k : Nat} (h : k < ls.length) : Gm.ryL st there (ls.take (k + 1)) = if Gm.subN (st.getD ls[k].toNat 0) there = true then Gm.ryL st there (ls.take k) ||| S.bit ls[k] else Gm.ryL st there (ls.take k) := by
  unfold Gm.ryL
  rw [List.take_succ_eq_append_getElem h, List.foldl_append]; rfl
theorem Gm.ryL_bit (st : List Nat) (there j : Nat) (ls : List Int) (hb : ∀ n ∈ ls, 0 ≤ n ∧ n ≤ 31) : (Gm.ryL st there ls).testBit j = true ↔ (j : Int) ∈ ls ∧ Gm.subN (st.getD j 0) there = true := by
  unfold Gm.ryL
  suffices ∀ (ls : List Int) (a : Nat), (∀ n ∈ ls, 0 ≤ n ∧ n ≤ 31) → ((ls.foldl (fun s n => if Gm.subN (st.getD n.toNat 0) there = true then s ||| S.bit n else s) a).testBit j = true ↔ a.testBit j = true ∨ (j : Int) ∈ ls ∧ Gm.subN (st.getD j 0) there = true) by
    rw [this ls 0 hb]; simp
  intro ls
  induction ls with
  | nil => intro a _; simp
  | cons n r ih =>
    intro a hn
    have h0 := hn n (List.mem_cons_self ..)
    rw [List.foldl_cons, ih _ fun m hm => hn m (List.mem_cons_of_mem _ hm), List.mem_cons]
    obtain ⟨m, rfl⟩ := Int.eq_ofNat_of_zero_le h0.1
    rw [Int.toNat_natCast]
    split
    · rename_i hs
      rw [Nat.testBit_or, Bool.or_eq_true, S.bit_nat (by omega), Nat.testBit_two_pow, decide_eq_true_eq]
      constructor
      · rintro ((h | h) | h)
        · exact .inl h
        · subst h; exact .inr ⟨.inl rfl, hs⟩
        · exact .inr ⟨.inr h.1, h.2⟩
      · rintro (h | ⟨h | h, h2⟩)
        · exact .inl (.inl h)
        · exact .inl (.inr (by omega))
        · exact .inr ⟨h, h2⟩
    · rename_i hs
      constructor
      · rintro (h | h)
        · exact .inl h
        · exact .inr ⟨.inr h.1, h.2⟩
      · rintro (h | ⟨h | h, h2⟩)
        · exact .inl h
        · exfalso
          rw [show j = m by omega] at h2
          exact hs h2
        · exact .inr ⟨h, h2⟩
theorem Gm.ryL_lt (st : List Nat) (there : Nat) (ls : List Int) : Gm.ryL st there ls < 4294967296 := by
  unfold Gm.ryL
  suffices ∀ (ls : List Int) (a : Nat), a < 4294967296 → ls.foldl (fun s n => if Gm.subN (st.getD n.toNat 0) there = true then s ||| S.bit n else s) a < 4294967296 from this ls 0 (by decide)
  intro ls
  induction ls with
  | nil => intro a h; exact h
  | cons n r ih =>
    intro a h
    rw [List.foldl_cons]
    split
    · exact ih _ (S.or_lt h (S.bit_lt n))
    · exact ih _ h
theorem Gm.andNot_bit {us there i : Nat} (hi : i ≤ 31) (ht : there < 4294967296) : (us &&& (4294967295 - there)).testBit i = (us.testBit i && !there.testBit i) := by
  rw [Nat.testBit_and, show 4294967295 - there = 2 ^ 32 - (there + 1) by omega, Nat.testBit_two_pow_sub_succ (by omega)]
  simp [show i < 32 by omega]
theorem Gm.ryL_rdy {us there : Nat} {st : List Nat} (hus : us < 2 ^ st.length) (h32 : st.length ≤ 32) (ht : there < 4294967296) : Gm.ryL st there (S.mem (us &&& (4294967295 - there))) = Gm.rdy us st st.length there := by
  refine Nat.eq_of_testBit_eq fun j => Bool.eq_iff_iff.2 ?_
  rw [Gm.ryL_bit _ _ _ _ (fun n hn => S.mem_lims hn), S.mem_mem, Int.toNat_natCast]
  unfold Gm.rdy
  rw [Gm.thB_bit]
  unfold Gm.next
  rw [Bool.and_eq_true]
  constructor
  · rintro ⟨⟨_, h1, h2⟩, h3⟩
    rw [Gm.andNot_bit (by omega) ht] at h2
    refine ⟨?_, h2, h3⟩
    rcases Nat.lt_or_ge j st.length with h | h
    · exact h
    · rw [Bool.and_eq_true, Nat.testBit_lt_two_pow (Nat.lt_of_lt_of_le hus (Nat.pow_le_pow_right (by decide) h))] at h2
      cases h2.1
  · rintro ⟨h1, h2, h3⟩
    refine ⟨⟨by omega, by omega, ?_⟩, h3⟩
    rw [Gm.andNot_bit (by omega) ht]; exact h2
set_option maxHeartbeats 4000000 in
theorem ready_any (st : List Nat) (lf there : Nat) (A : Option Addr) (c B : Nat) (w : World) (hr : RdZ w B A st) (hB : B ≤ w.heap.size) (hu : Gm.U32 st) (hlf : lf < 4294967296) (hin : ∀ n ∈ S.mem lf, n < (st.length : Int)) (hth : there < 4294967296) (ht : Tab32 w) :
    Calls Tryz.prog 49 #[.slice A st.length c, .int .u32 (lf : Int), .int .u32 (there : Int)] w fun e w' => e = .returned (.int .u32 (Gm.ryL st there (S.mem lf))) ∧ Below w.heap.size w w' := by
  have H1 := hide (smembers_any lf w hlf ht)
  have HR := hide hr
  have HB := hide hB
  have HU := hide hu
  have HTH := hide hth
  have HIN := hide (fun n hn => And.intro (S.mem_lims (s := lf) hn).1 (hin n hn))
  have HML := hide (S.mem_len lf)
  have HO := hide (fun n w => cOnly_any n w)
  generalize S.mem lf = ls at *
  have HNX := hide (fun k (h : k < ls.length) => Gm.ryL_next st there h)
  have HRL := hide (fun k => Gm.ryL_lt st there (ls.take k))
  have hlen : (ls.length : Int) ≤ 9223372036854775807 := by have := HML.out; omega
  clear hr hB hu hlf hin hth ht
  go_enter Tryz.func49, Tryz.ntmps49
  go_wp2_with fail
  refine H1.out.mono ?_; rintro _ w2 ⟨v, rfl, ho, hb⟩
  obtain ⟨A2, c2, rfl, _, _, hr2⟩ := ho.form
  have HR2 := hide hr2
  have HB2 := hide hb
  have HW2 := hide (show Below w2.heap.size w2 w2 from Below.refl _ _)
  clear ho hb hr2 H1
  go_wp2
  go_loopw [7, 13] (fun vs vi wr => ∃ k : Nat, k ≤ ls.length ∧ vi = .int .i64 k ∧ vs = .int .u32 (Gm.ryL st there (ls.take k)) ∧ Hid (Below w2.heap.size w2 wr)) (fun _ vi _ => ls.length - (intOf vi).toNat)
  case atStart => exact ⟨0, Nat.zero_le _, rfl, rfl, HW2⟩
  case round =>
    clear HW2
    obtain ⟨k, hk, rfl, rfl, HW⟩ := hrel
    by_cases hlt : k < ls.length
    · obtain ⟨g, o, rfl, hgb, hc⟩ := HR2.out (by omega)
      have k0 := (HW.out.cell (p := ⟨g, o + k, none⟩) hgb).trans (hc k hlt)
      rw [L.gd_lt hlt] at k0
      have hm := HIN.out _ (List.getElem_mem hlt)
      have HN := hide (HNX.out k hlt)
      have HL := hide (HRL.out k)
      clear hc
      generalize Gm.ryL st there (ls.take k) = s at *
      generalize ls[k] = n at *
      obtain ⟨m, rfl⟩ : ∃ m : Nat, n = (m : Int) := ⟨n.toNat, by omega⟩
      rw [Int.toNat_natCast] at HN
      have hm2 : m < st.length := by omega
      have hm3 : (m : Int) < (st.length : Int) := by omega
      obtain ⟨g2, o2, rfl, hgb2, hc2⟩ := RdZ.addr HR.out (by omega)
      have hg2w : g2 < w.heap.size := Nat.lt_of_lt_of_le hgb2 HB.out
      have k2 := (HW.out.cell (p := ⟨g2, o2 + m, none⟩) (by have := HB2.out.size; simp only; omega)).trans ((HB2.out.cell (p := ⟨g2, o2 + m, none⟩) hg2w).trans (hc2 m hm2))
      have HUm := hide (HU.out m)
      have HOm := hide (fun w => HO.out (m : Int) w)
      have ha := u32_andNot_nat (st.getD m 0) there HUm.out HTH.out
      have hq : (((st.getD m 0 &&& (4294967295 - there) : Nat) : Int) == 0) = Gm.subN (st.getD m 0) there := by
        rw [Bool.eq_iff_iff, ← Gm.andNot_sub HUm.out HTH.out, beq_iff_eq]; omega
      have ho := hide (u32_or_nat s (S.bit (m : Int)) HL.out (S.bit_lt _))
      generalize Gm.subN (st.getD m 0) there = b at *
      generalize st.getD m 0 &&& (4294967295 - there) = d at *
      generalize st.getD m 0 = a at *
      generalize S.bit (m : Int) = bt at *
      clear hc2 hm hgb2 hg2w
      cases b
      · have HE := hide (HN.out.trans (if_neg (by simp)))
        clear HN
        go_wp2
        go_roundw
        case rel => exact ⟨k + 1, hlt, by go_num, by rw [HE.out], HW⟩
        case measure => simp [intOf]; omega
      · have HE := hide (HN.out.trans (if_pos rfl))
        clear HN
        go_wp2_with fail
        refine (HOm.out _).mono ?_; rintro _ w4 ⟨rfl, hb⟩
        have HW4 := hide (HW.out.trans (hb.mono HW.out.size))
        clear hb
        go_wp2_with (rw [ho.out])
        go_roundw
        case rel => exact ⟨k + 1, hlt, by go_num, by rw [HE.out], HW4⟩
        case measure => simp [intOf]; omega
    · obtain rfl : k = ls.length := by omega
      rw [List.take_length]
      go_wp2
      go_ret
      exact ⟨rfl, HB2.out.trans (HW.out.mono HB2.out.size)⟩

theorem Gm.least_pick {us n there : Nat} {st : List Nat} (hn : n ≤ 32) : S.least (Gm.rdy us st n there) = match Gm.pickO us st n there with | some i => (i : Int) | none => -1 := by
  cases hp : Gm.pickO us st n there with
  | none => rw [Gm.pick_none.1 hp]; unfold S.least; rw [S.mem_zero]; rfl
  | some i =>
    have hp2 := hp
    unfold Gm.pickO at hp2
    rw [List.find?_range_eq_some] at hp2
    obtain ⟨h1, h2, h3⟩ := hp2
    rw [List.mem_range] at h2
    unfold S.least S.mem
    have hi : (Gm.rdy us st n there).testBit i = true := (Gm.thB_bit _ _ _).2 ⟨h2, h1⟩
    rw [S.range_split (show i < 32 by omega), List.filter_append, List.filter_cons, if_pos hi, List.filter_eq_nil_iff.2 (fun j hj => by
      rw [List.mem_range'_1] at hj
      intro hb
      have := ((Gm.thB_bit _ _ _).1 hb).2
      have h4 := h3 j (by omega)
      rw [this] at h4; cases h4)]
    rfl
def Gm.oi (l : List Nat) : List Int := l.map Int.ofNat
set_option maxHeartbeats 8000000 in
theorem ordered_any (st : List Nat) (us : Nat) (A : Option Addr) (c B : Nat) (w : World) (hr : RdZ w B A st) (hB : B ≤ w.heap.size) (hu : Gm.U32 st) (h32 : st.length ≤ 32) (hus : us < 2 ^ st.length) (ht : Tab32 w) :
    Calls Tryz.prog 27 #[.slice A st.length c, .int .u32 (us : Int)] w (GotI (Gm.oi (Gm.ordL us st st.length st.length 0)) w) := by
  have hus2 : us < 4294967296 := Gm.pow32 hus h32
  have H1 := hide (scount_any us w hus2)
  have HCN := hide (show S.count us = ((S.mem us).length : Int) from rfl)
  have hml := S.mem_len us
  have HRD := hide (fun (y : World) (h : Below w.heap.size w y) (th : Nat) (hth : th < 4294967296) => (show Calls _ _ _ _ (fun e w' => e = .returned (.int .u32 (Gm.rdy us st st.length th)) ∧ Below y.heap.size y w') from by
    have := ready_any st (us &&& (4294967295 - th)) th A c B y (hr.below h hB) (Nat.le_trans hB h.size) hu (Nat.lt_of_le_of_lt Nat.and_le_left hus2) (fun n hn => by
      have h1 := S.mem_mem.1 hn
      have h2 := h1.2.2
      rw [Nat.testBit_and, Bool.and_eq_true] at h2
      rcases Int.lt_or_le n (st.length : Int) with h | h
      · exact h
      · rw [Nat.testBit_lt_two_pow (Nat.lt_of_lt_of_le hus (Nat.pow_le_pow_right (by decide) (show st.length ≤ n.toNat by omega)))] at h2
        cases h2.1) hth (ht.below h)
    rw [Gm.ryL_rdy hus h32 hth] at this
    exact this))
  have HLE := hide (fun (y : World) (h : Below w.heap.size w y) (th : Nat) => sleast_any (Gm.rdy us st st.length th) y (Gm.pow32 (Gm.thB_lt _ _) h32) (ht.below h))
  have HO := hide (fun n w => cOnly_any n w)
  have HPI := hide (fun th => Gm.least_pick (us := us) (there := th) (st := st) h32)
  have HPS := hide (fun th i (h : Gm.pickO us st st.length th = some i) => Gm.pick_some h)
  have H32 := hide h32
  have HL0 := hide (Gm.left_le us st.length 0)
  have HUS := hide hus2
  clear hr hB hu h32 hus ht hus2
  go_enter Tryz.func27, Tryz.ntmps27
  go_wp2_with fail
  refine H1.out.mono ?_; rintro _ w1 ⟨rfl, q, rfl⟩
  go_wp2_with (at_make; refine mk0I_arm rfl _ _ _ rfl Tryz.underlying29 w.heap.size (S.mem us).length _ rfl rfl HCN.out (by omega) (Nat.le_refl _) ?_; intro w2 v2 ho hb)
  have HO2 := hide ho
  have HB2 := hide (show Below w.heap.size w w2 from ⟨hb.os, hb.tape, hb.output, hb.size, hb.block⟩)
  clear ho hb hml
  obtain ⟨n, hn⟩ : ∃ n, n = st.length := ⟨_, rfl⟩
  rw [← hn] at HRD HLE HPI HPS H32 HL0 ⊢
  clear hn
  obtain ⟨O, hO⟩ : ∃ O, O = Gm.ordL us st n n 0 := ⟨_, rfl⟩
  rw [← hO]
  have HE0 : Hid (Gm.left us n 0 ≤ n ∧ [] ++ Gm.ordL us st n n 0 = O) := hide ⟨HL0.out, by rw [hO]; rfl⟩
  clear hO
  go_loopw [5, 6] (fun vl vt wr => ∃ (l : List Nat) (th m : Nat), vt = .int .u32 (th : Int) ∧ Hid (th < 4294967296) ∧ Hid (OwnI wr w.heap.size vl (Gm.oi l)) ∧ Hid (Below w.heap.size w wr) ∧ Hid (Gm.left us n th ≤ m ∧ l ++ Gm.ordL us st n m th = O) ∧ Hid (l.length + Gm.left us n th ≤ n)) (fun _ vt _ => Gm.left us n (intOf vt).toNat)
  case atStart => exact ⟨[], 0, n, rfl, hide (by decide), HO2, HB2, HE0, hide (by simpa using HL0.out)⟩
  case round =>
    clear HO2 HB2 HE0
    obtain ⟨l, th, m, rfl, HT, HOl, HB, HEq, HLn⟩ := hrel
    have ha := u32_andNot_nat us th HUS.out HT.out
    have HR1 := hide (HRD.out wr HB.out th HT.out)
    have HP1 := hide (HPI.out th)
    have HLt := hide (fun (y : World) (h : Below w.heap.size w y) => HLE.out y h th)
    rw [HP1.out] at HLt
    have HPt := hide (HPS.out th)
    clear HRD HLE HPI HPS HP1
    cases hp : Gm.pickO us st n th with
    | none =>
      rw [hp] at HLt
      have HX : Hid (l = O) := hide (by have := HEq.out.2; rw [Gm.ordL_none hp, List.append_nil] at this; exact this)
      clear hp
      go_wp2_with fail
      refine HR1.out.mono ?_; rintro _ w3 ⟨rfl, hb⟩
      have HB3 := hide (HB.out.trans (hb.mono HB.out.size))
      have HO3 := hide (HOl.out.below hb (Nat.le_refl _))
      clear hb
      go_wp2_with fail
      refine (HLt.out _ HB3.out).mono ?_; rintro _ w3 ⟨rfl, rfl⟩
      go_wp2
      go_ret
      exact ⟨_, rfl, by rw [← HX.out]; exact HO3.out, HB3.out⟩
    | some i =>
      rw [hp] at HLt
      have hin := (HPt.out i hp).1
      have hlf := Gm.left_pos hp
      have HST : Hid (∃ m', m = m' + 1 ∧ Gm.left us n (th ||| 2 ^ i) ≤ m' ∧ (l ++ [i]) ++ Gm.ordL us st n m' (th ||| 2 ^ i) = O) := hide (by
        have h1 := HEq.out
        obtain ⟨m', rfl⟩ : ∃ m', m = m' + 1 := ⟨m - 1, by omega⟩
        refine ⟨m', rfl, by omega, ?_⟩
        have h2 := h1.2
        rw [Gm.ordL_some hp] at h2
        rw [List.append_assoc]; exact h2)
      have HLF := hide hlf
      have hb2 : S.bit (i : Int) = 2 ^ i := S.bit_nat (by have := H32.out; omega)
      have HOi := hide (fun w => HO.out (i : Int) w)
      rw [hb2] at HOi
      have hbl : 2 ^ i < 4294967296 := by rw [← hb2]; exact S.bit_lt _
      have ho := hide (u32_or_nat th (2 ^ i) HT.out hbl)
      have HT2 := hide (S.or_lt HT.out hbl)
      have hi0 : (0 : Int) ≤ (i : Int) := by omega
      have HLL : Hid ((Gm.oi l).length ≤ 1000) := hide (by have := HLn.out; have := H32.out; unfold Gm.oi; rw [List.length_map]; omega)
      have HOI : Hid (Gm.oi (l ++ [i]) = Gm.oi l ++ [(i : Int)]) := hide (by unfold Gm.oi; rw [List.map_append]; rfl)
      have HLN2 : Hid ((l ++ [i]).length + Gm.left us n (th ||| 2 ^ i) ≤ n) := hide (by have := HLn.out; rw [List.length_append]; simp only [List.length_singleton]; omega)
      clear hp HPt hin hlf hbl hb2
      generalize 2 ^ i = bt at *
      go_wp2_with fail
      refine HR1.out.mono ?_; rintro _ w3 ⟨rfl, hb⟩
      have HB3 := hide (HB.out.trans (hb.mono HB.out.size))
      have HO3 := hide (HOl.out.below hb (Nat.le_refl _))
      clear hb
      go_wp2_with fail
      refine (HLt.out _ HB3.out).mono ?_; rintro _ w3 ⟨rfl, rfl⟩
      go_wp2_with (at_builtin; refine apI_arm rfl (.tmp 21) (.tmp 23) _ rfl Tryz.underlying29 w.heap.size _ (Gm.oi l) rfl (HO3.out.alloc _) w3.heap.size 1 (i : Int) rfl (World.cell?_alloc_new _ _ _ 0) (by have := HLL.out; omega) (by have := HB3.out.size; simp; omega) ?_; intro v4 w4 ho4 hg4)
      have HB4 := hide (below_grownI (HB3.out.alloc (by have := HB3.out.size; omega) _) (HO3.out.alloc _) hg4 (by have := HB3.out.size; simp; omega))
      have HO4 := hide ho4
      clear ho4 hg4
      refine (HOi.out _).mono ?_; rintro _ w5 ⟨rfl, hb⟩
      have HB5 := hide (HB4.out.trans (hb.mono HB4.out.size))
      have HO5 := hide (HO4.out.below hb (Nat.le_refl _))
      clear hb
      go_wp2_with (rw [ho.out])
      go_roundw
      case rel =>
        obtain ⟨m', _, h1, h2⟩ := HST.out
        exact ⟨l ++ [i], _, m', rfl, HT2, hide (by rw [HOI.out]; exact HO5.out), HB5, hide ⟨h1, h2⟩, HLN2⟩
      case measure => simp only [intOf, Int.toNat_natCast]; exact HLF.out

noncomputable def Gm.orG (G : Gm.Gr) : List Int := if Gm.right G = true ∧ Gm.enB G = false then Gm.oi (Gm.order G) else []
noncomputable def Gm.orE (G : Gm.Gr) : Int := if Gm.right G = true then (if Gm.enB G = true then 10 else 0) else 1
def OrAns (G : Gm.Gr) (w : World) (e : Ending) (w' : World) : Prop := ∃ A c, e = .returned (.tuple #[.slice A (Gm.orG G).length c, .int .i64 (Gm.orE G)]) ∧ RdI w' w'.heap.size A (Gm.orG G) ∧ Below w.heap.size w w'
theorem OrAns.no {G : Gm.Gr} {w w' : World} {er : Int} (h : Gm.orE G = er) (h0 : er ≠ 0) (hb : Below w.heap.size w w') : OrAns G w (.returned (.tuple #[.slice none 0 0, .int .i64 er])) w' := by
  have hL : Gm.orG G = [] := by
    unfold Gm.orG
    rw [if_neg]
    rintro ⟨h1, h2⟩
    unfold Gm.orE at h
    rw [if_pos h1, h2] at h
    exact h0 h.symm
  exact ⟨none, 0, by rw [hL, h]; rfl, by rw [hL]; exact RdI.nil _ _ _, hb⟩
set_option maxHeartbeats 8000000 in
theorem cOrder_any (v : Value) (G : Gm.Gr) (B : Nat) (w : World) (hg : RdGr w B v G) (hf : Gm.Fit G) (hB : B ≤ w.heap.size) (ht : Tab32 w) :
    Calls Tryz.prog 9 #[v] w (OrAns G w) := by
  have H1 := hide (fun (x : World) (h : Below w.heap.size w x) => gright_any v G B x (hg.below h hB) hf (Nat.le_trans hB h.size))
  have H2 := hide (fun (x : World) (h : Below w.heap.size w x) => cEndless_any v G B x (hg.below h hB) hf (Nat.le_trans hB h.size))
  have H3 := hide (fun (q : Gm.right G = true) (x : World) (h : Below w.heap.size w x) => (show Calls _ _ _ _ (RowZn _ _) from (cSteps_any v G B x (hg.below h hB) hf (Nat.le_trans hB h.size)).mono fun e w' k => k.1 q))
  have H4 := hide (fun (x : World) (h : Below w.heap.size w x) => ofUse_any v G B x (hg.below h hB) hf (Nat.le_trans hB h.size))
  have HOE : Hid (Gm.orE G = if Gm.right G = true then (if Gm.enB G = true then 10 else 0) else 1) := hide rfl
  have HT := hide ht
  obtain ⟨AT, cT, AN, cN, AR, cR, rfl, _⟩ := hg
  have HS0 := hide (One.start w #[.slice AT G.ts.length cT, .slice AN G.ns.length cN, .slice AR G.rs.length cR, .int .i64 G.st])
  clear hf hB ht
  cases q : Gm.right G with
  | false =>
    rw [q] at H1 HOE
    clear q H2 H3 H4
    go_enter Tryz.func9, Tryz.ntmps9
    go_wp2_with fail
    refine (H1.out _ HS0.out.below).mono ?_; rintro _ w2 ⟨rfl, hb⟩
    have HB2 := hide (HS0.out.on hb)
    clear hb
    go_wp2
    go_ret2
    exact OrAns.no HOE.out (by decide) HB2.out.below
  | true =>
    have H3 := hide (H3.out q)
    have HOK := hide (Gm.right_ok.1 q)
    have HUS : Hid (Gm.usG G = Gm.usf G) := hide (by unfold Gm.usG; rw [if_pos q])
    rw [HUS.out] at H4
    have HQ := hide q
    rw [q] at H1
    rw [if_pos q] at HOE
    clear q
    go_enter Tryz.func9, Tryz.ntmps9
    go_wp2_with fail
    refine (H1.out _ HS0.out.below).mono ?_; rintro _ w2 ⟨rfl, hb⟩
    have HB2 := hide (HS0.out.on hb)
    clear hb H1 HS0
    have x0 := HB2.out.c 0 _ rfl
    have x1 := HB2.out.c 1 _ rfl
    have x2 := HB2.out.c 2 _ rfl
    have x3 := HB2.out.c 3 _ rfl
    have lg : w.heap.size < w2.heap.size := HB2.out.size
    cases qe : Gm.enB G with
    | true =>
      rw [qe] at H2
      rw [if_pos qe] at HOE
      clear qe H3 H4
      go_wp2_with fail
      refine (H2.out _ HB2.out.below).mono ?_; rintro _ w3 ⟨rfl, hb⟩
      have HB3 := hide (HB2.out.on hb)
      clear hb x0 x1 x2 x3 lg
      go_wp2
      go_ret2
      exact OrAns.no HOE.out (by decide) HB3.out.below
    | false =>
      rw [qe] at H2
      rw [if_neg (by rw [qe]; simp)] at HOE
      have HOG : Hid (Gm.orG G = Gm.oi (Gm.order G)) := hide (by unfold Gm.orG; rw [if_pos ⟨HQ.out, qe⟩])
      have HN : Hid (G.ns.length ≤ 32) := hide (by have := (Gm.nons_iff G).1 HOK.out.n; omega)
      have H5 := hide (fun (x : World) (h : Below w.heap.size w x) (g : Nat) (hu : UBZ x g (Gm.stp G)) => ordered_any (Gm.stp G) (Gm.usf G) (some ⟨g, 0, none⟩) (Gm.stp G).length x.heap.size x (hu.rd hu.lt) (Nat.le_refl _) (fun i => Gm.stp_u32 HN.out i) (by rw [Gm.stp_len]; exact HN.out) (by rw [Gm.stp_len]; exact Gm.usf_lt G) (HT.out.below h))
      rw [Gm.stp_len] at H5
      have HOD : Hid (Gm.order G = Gm.ordL (Gm.usf G) (Gm.stp G) G.ns.length G.ns.length 0) := hide rfl
      rw [← HOD.out] at H5
      unfold RowZn at H3
      rw [Gm.stp_len] at H3
      generalize Gm.stp G = st at *
      generalize Gm.usf G = us at *
      clear qe
      go_wp2_with fail
      refine (H2.out _ HB2.out.below).mono ?_; rintro _ w3 ⟨rfl, hb⟩
      have HB3 := hide (HB2.out.on hb)
      clear hb x0 x1 x2 x3 lg H2 HB2
      go_upto_region 5 with fail
      have lg : w.heap.size < w3.heap.size := HB3.out.size
      have q0 := fun y : Calm.On w3.heap.size w3 => (HB3.out.on y.2).c 0 _ rfl
      have q1 := fun y : Calm.On w3.heap.size w3 => (HB3.out.on y.2).c 1 _ rfl
      have q2 := fun y : Calm.On w3.heap.size w3 => (HB3.out.on y.2).c 2 _ rfl
      have q3 := fun y : Calm.On w3.heap.size w3 => (HB3.out.on y.2).c 3 _ rfl
      have HSB : Hid (∀ z, Below w3.heap.size w3 z → ∃ q : Calm.On w3.heap.size w3, z = q.1) := hide (fun z hz => ⟨⟨z, hz⟩, rfl⟩)
      have HBW : Hid (∀ z, Below w3.heap.size w3 z → Below w.heap.size w z) := hide (fun z hz => (HB3.out.on hz).below)
      have HD : Hid (Below w3.heap.size w3 w3.drew) := hide (below_drewN (Below.refl _ _) 1)
      refine CalmN.region_tree (fun x => ∃ y : Calm.On w3.heap.size w3, x = y.1) (.one [0, 2] 1 (.one [] 3 (.one [] 4 (.fin [5, 6])))) (by kernel_rfl) (by kernel_rfl) (fun _ _ d _ _ h => by cases d <;> exact h) ⟨⟨w3.drew, HD.out⟩, rfl⟩ ?_
      simp only [CalmN.wpT, CalmN.wpSt, CalmN.pickOps, List.getElem?_toArray, List.getElem?_cons_zero, List.getElem?_cons_succ]
      repeat (go_big_quiet_step (fail))
      refine wpQuiet_nil ?_
      generalize w3.drew = wd at *
      clear q0 q1 q2 q3
      intro KK hKK
      rw [if_pos (by rfl)]
      go_wp2_with fail
      refine (H3.out wd (HBW.out _ HD.out)).mono ?_; rintro _ v1 ⟨g1, rfl, _, hu, hb⟩
      have HV1 := hide (HD.out.trans (hb.mono HD.out.size))
      have HU1 := hide hu
      clear hb hu
      go_wp2_with fail
      refine hKK _ _ (HSB.out _ HV1.out) (fun x => ∃ y : Calm.On w3.heap.size w3, x = y.1) (fun _ h => h) (HSB.out _ HV1.out) ?_
      clear hKK
      refine wpQuiet_nil ?_
      intro KK hKK
      rw [if_pos (by rfl)]
      go_wp2_with fail
      refine (H4.out v1 (HBW.out _ HV1.out)).mono ?_; rintro _ v2 ⟨rfl, hb⟩
      have HV2 := hide (HV1.out.trans (hb.mono HV1.out.size))
      have H52 := hide (H5.out v2 (HBW.out _ HV2.out) g1 (HU1.out.below hb HU1.out.lt))
      clear hb
      go_wp2_with fail
      refine hKK _ _ (HSB.out _ HV2.out) (fun x => ∃ y : Calm.On w3.heap.size w3, x = y.1) (fun _ h => h) (HSB.out _ HV2.out) ?_
      clear hKK
      refine wpQuiet_nil ?_
      intro KK hKK
      rw [if_pos (by rfl)]
      go_wp2_with fail
      refine H52.out.mono ?_; rintro _ v3 ⟨v, rfl, ho, hb⟩
      have HV3 := hide (HV2.out.trans (hb.mono HV2.out.size))
      obtain ⟨A', c', rfl, _, _, hr⟩ := ho.form
      have HR := hide hr
      clear ho hb hr
      go_wp2_with fail
      refine hKK _ _ (HSB.out _ HV3.out) (fun x => ∃ y : Calm.On w3.heap.size w3, x = y.1) (fun _ h => h) (HSB.out _ HV3.out) ?_
      clear hKK
      repeat (go_big_quiet_step (fail))
      refine wpQuiet_nil ?_
      go_wp2
      go_ret2
      exact ⟨A', c', by rw [HOG.out, HOE.out]; rfl, by rw [HOG.out]; exact HR.out, HBW.out _ HV3.out⟩
end Go.Proofs.YtajcegofflmoeaaGreatDoor
