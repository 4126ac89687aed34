/- Part of the proofs over this program: FstFol2, Alive12, TrimRef, FstRef, GramOpen, RowKit. -/
import Derived.Deep.Slices
import Derived.Deep.Fields
import Derived.ChangeSame
import Derived.Lib.SmallJoins
import Derived.SliceStrings
import Derived.Test.YthjohhcgegcmhaaGreatRows
import Derived.SizedLaws
import Derived.LaidMore
import Derived.Stop.Joined
import Derived.ShutString
import Derived.ChangeOld
import Derived.Test.YthjohhcgegcmhaaGreatKJ
namespace Go.Proofs.YthjohhcgegcmhaaGreat
set_option maxRecDepth 100000
open Go.RowKit

structure JF (w2 : World) (n : Nat) (T : List Bool) (F : List Nat) (todo : List Nat) (wx : World) (x9 x13 x3 x4 : Value) (g1 h5 g5 c6 c7 : Nat) : Prop where
  t : ∀ k ∈ todo, k = 1 ∨ k = 5 ∨ k = 6 ∨ k = 7 ∨ k = 8
  nd : todo.Nodup
  b : Below w2.heap.size w2 wx
  h1 : 1 ∉ todo → x9 = .agg #[.slice (some ⟨g1, 0, none⟩) n n, .slice (some ⟨h5, 0, none⟩) n n] ∧ w2.heap.size ≤ g1 ∧ w2.heap.size ≤ h5 ∧ UBO wx g1 T ∧ UBZ wx h5 F
  m : 5 ∉ todo → x13 = .slice (some ⟨g5, 0, none⟩) n n ∧ w2.heap.size ≤ g5 ∧ UBZ wx g5 (List.replicate n 0)
  h6 : 6 ∉ todo → x3 = .pointer (some ⟨c6, 0, none⟩) ∧ w2.heap.size ≤ c6 ∧ (8 ∈ todo → wx.heap[c6]? = some (.cells #[.slice none 0 0, .slice none 0 0] 48 (0, 0)))
  h7 : 7 ∉ todo → x4 = .pointer (some ⟨c7, 0, none⟩) ∧ w2.heap.size ≤ c7 ∧ wx.heap[c7]? = some (.cells #[.slice none 0 0] 30 (0, 0))
  h8 : 8 ∉ todo → 1 ∉ todo ∧ 6 ∉ todo ∧ wx.heap[c6]? = some (.cells #[.slice (some ⟨g1, 0, none⟩) n n, .slice (some ⟨h5, 0, none⟩) n n] 48 (0, 0))
  d : 1 ∉ todo → 5 ∉ todo → h5 ≠ g5
section
variable {w2 wx w' : World} {n : Nat} {T : List Bool} {F : List Nat} {todo : List Nat} {x9 x13 x3 x4 : Value} {g1 h5 g5 c6 c7 : Nat}
theorem not_e {j k : Nat} (q : j ∉ todo.erase k) (h : (j == k) = false := by decide) : j ∉ todo := not_erase q (by simpa using h)
theorem JF.put1 (h : JF w2 n T F todo wx x9 x13 x3 x4 g1 h5 g5 c6 c7) (hm : 1 ∈ todo) (hb : Below wx.heap.size wx w') {a b : Nat} (ha : wx.heap.size ≤ a) (hbb : wx.heap.size ≤ b) (hu : UBO w' a T) (hv : UBZ w' b F) : JF w2 n T F (todo.erase 1) w' (.agg #[.slice (some ⟨a, 0, none⟩) n n, .slice (some ⟨b, 0, none⟩) n n]) x13 x3 x4 a b g5 c6 c7 where
  t k hk := h.t k (List.mem_of_mem_erase hk)
  nd := h.nd.erase _
  b := h.b.trans (hb.mono h.b.size)
  h1 _ := ⟨rfl, Nat.le_trans h.b.size ha, Nat.le_trans h.b.size hbb, hu, hv⟩
  m q := by obtain ⟨a1, a2, a3⟩ := h.m (not_e q); exact ⟨a1, a2, heap_keep hb a3⟩
  h6 q := by obtain ⟨a1, a2, a3⟩ := h.h6 (not_e q); exact ⟨a1, a2, fun r => heap_keep hb (a3 (List.mem_of_mem_erase r))⟩
  h7 q := by obtain ⟨a1, a2, a3⟩ := h.h7 (not_e q); exact ⟨a1, a2, heap_keep hb a3⟩
  h8 q := absurd hm (h.h8 (not_e q)).1
  d _ q := by have := (h.m (not_e q)).2.2.lt; omega
theorem JF.put5 (h : JF w2 n T F todo wx x9 x13 x3 x4 g1 h5 g5 c6 c7) (hb : Below wx.heap.size wx w') (hu : UBZ w' wx.heap.size (List.replicate n 0)) : JF w2 n T F (todo.erase 5) w' x9 (.slice (some ⟨wx.heap.size, 0, none⟩) n n) x3 x4 g1 h5 wx.heap.size c6 c7 where
  t k hk := h.t k (List.mem_of_mem_erase hk)
  nd := h.nd.erase _
  b := h.b.trans (hb.mono h.b.size)
  h1 q := by obtain ⟨a1, a2, a3, a4, a5⟩ := h.h1 (not_e q); exact ⟨a1, a2, a3, heap_keep hb a4, heap_keep hb a5⟩
  m _ := ⟨rfl, h.b.size, hu⟩
  h6 q := by obtain ⟨a1, a2, a3⟩ := h.h6 (not_e q); exact ⟨a1, a2, fun r => heap_keep hb (a3 (List.mem_of_mem_erase r))⟩
  h7 q := by obtain ⟨a1, a2, a3⟩ := h.h7 (not_e q); exact ⟨a1, a2, heap_keep hb a3⟩
  h8 q := by obtain ⟨a1, a2, a3⟩ := h.h8 (not_e q); exact ⟨fun r => a1 (List.mem_of_mem_erase r), fun r => a2 (List.mem_of_mem_erase r), heap_keep hb a3⟩
  d q _ := by have := (h.h1 (not_e q)).2.2.2.2.lt; omega
theorem JF.put6 (h : JF w2 n T F todo wx x9 x13 x3 x4 g1 h5 g5 c6 c7) (hm : 6 ∈ todo) : JF w2 n T F (todo.erase 6) (wx.alloc (.cells #[.slice none 0 0, .slice none 0 0] 48)) x9 x13 (.pointer (some ⟨wx.heap.size, 0, none⟩)) x4 g1 h5 g5 wx.heap.size c7 where
  t k hk := h.t k (List.mem_of_mem_erase hk)
  nd := h.nd.erase _
  b := h.b.alloc h.b.size _
  h1 q := by obtain ⟨a1, a2, a3, a4, a5⟩ := h.h1 (not_e q); exact ⟨a1, a2, a3, UBO.alloc a4 _, UBZ.alloc a5 _⟩
  m q := by obtain ⟨a1, a2, a3⟩ := h.m (not_e q); exact ⟨a1, a2, UBZ.alloc a3 _⟩
  h6 _ := ⟨rfl, h.b.size, fun _ => heap_alloc_new wx _⟩
  h7 q := by obtain ⟨a1, a2, a3⟩ := h.h7 (not_e q); exact ⟨a1, a2, heap_keep ((Below.refl _ wx).alloc (Nat.le_refl _) _) a3⟩
  h8 q := absurd hm (h.h8 (not_e q)).2.1
  d q r := h.d (not_e q) (not_e r)
theorem JF.put7 (h : JF w2 n T F todo wx x9 x13 x3 x4 g1 h5 g5 c6 c7) : JF w2 n T F (todo.erase 7) (wx.alloc (.cells #[.slice none 0 0] 30)) x9 x13 x3 (.pointer (some ⟨wx.heap.size, 0, none⟩)) g1 h5 g5 c6 wx.heap.size where
  t k hk := h.t k (List.mem_of_mem_erase hk)
  nd := h.nd.erase _
  b := h.b.alloc h.b.size _
  h1 q := by obtain ⟨a1, a2, a3, a4, a5⟩ := h.h1 (not_e q); exact ⟨a1, a2, a3, UBO.alloc a4 _, UBZ.alloc a5 _⟩
  m q := by obtain ⟨a1, a2, a3⟩ := h.m (not_e q); exact ⟨a1, a2, UBZ.alloc a3 _⟩
  h6 q := by obtain ⟨a1, a2, a3⟩ := h.h6 (not_e q); exact ⟨a1, a2, fun r => heap_keep ((Below.refl _ wx).alloc (Nat.le_refl _) _) (a3 (List.mem_of_mem_erase r))⟩
  h7 _ := ⟨rfl, h.b.size, heap_alloc_new wx _⟩
  h8 q := by obtain ⟨a1, a2, a3⟩ := h.h8 (not_e q); exact ⟨fun r => a1 (List.mem_of_mem_erase r), fun r => a2 (List.mem_of_mem_erase r), heap_keep ((Below.refl _ wx).alloc (Nat.le_refl _) _) a3⟩
  d q r := h.d (not_e q) (not_e r)
theorem ne_cells {w : World} {a b : Nat} {cs ds : Array Value} {t u : TypeId} {p q : Nat × Nat} (ha : w.heap[a]? = some (.cells cs t p)) (hb : w.heap[b]? = some (.cells ds u q)) (h : (t == u) = false) : a ≠ b := by
  rintro rfl
  rw [ha] at hb
  injection hb with hb
  injection hb with _ hb
  subst hb
  simp at h
theorem JF.put8 (h : JF w2 n T F todo wx x9 x13 x3 x4 g1 h5 g5 c6 c7) (hm : 8 ∈ todo) (m1 : 1 ∉ todo) (m6 : 6 ∉ todo) : JF w2 n T F (todo.erase 8) ((wx.setCell ⟨c6, 0, none⟩ (.slice (some ⟨g1, 0, none⟩) n n)).setCell ⟨c6, 1, none⟩ (.slice (some ⟨h5, 0, none⟩) n n)) x9 x13 x3 x4 g1 h5 g5 c6 c7 where
  t k hk := h.t k (List.mem_of_mem_erase hk)
  nd := h.nd.erase _
  b := (h.b.setCell (p := ⟨c6, 0, none⟩) (h.h6 m6).2.1 _).setCell (p := ⟨c6, 1, none⟩) (h.h6 m6).2.1 _
  h1 q := by
    have hc := (h.h6 m6).2.2 hm
    obtain ⟨a1, a2, a3, a4, a5⟩ := h.h1 (not_e q)
    exact ⟨a1, a2, a3, UBO.far (UBO.far a4 (ne_cells a4 hc (by decide)) _) (ne_cells a4 hc (by decide)) _, UBZ.far (UBZ.far a5 (ne_cells a5 hc (by decide)) _) (ne_cells a5 hc (by decide)) _⟩
  m q := by
    have hc := (h.h6 m6).2.2 hm
    obtain ⟨a1, a2, a3⟩ := h.m (not_e q)
    exact ⟨a1, a2, UBZ.far (UBZ.far a3 (ne_cells a3 hc (by decide)) _) (ne_cells a3 hc (by decide)) _⟩
  h6 q := by obtain ⟨a1, a2, a3⟩ := h.h6 m6; exact ⟨a1, a2, fun r => absurd r h.nd.not_mem_erase⟩
  h7 q := by
    have hc := (h.h6 m6).2.2 hm
    obtain ⟨a1, a2, a3⟩ := h.h7 (not_e q)
    have hne : c7 ≠ c6 := ne_cells a3 hc (by decide)
    exact ⟨a1, a2, (Below.heap_setCell _ ⟨c6, 1, none⟩ _ c7 hne).trans ((Below.heap_setCell wx ⟨c6, 0, none⟩ _ c7 hne).trans a3)⟩
  h8 _ := ⟨fun r => m1 (List.mem_of_mem_erase r), fun r => m6 (List.mem_of_mem_erase r), heap_setCell_same _ c6 1 _ _ _ (heap_setCell_same wx c6 0 _ _ _ ((h.h6 m6).2.2 hm))⟩
  d q r := h.d (not_e q) (not_e r)
end
structure FwP (G : Gm.Gr) (s : List Nat) : Prop where
  l : s.length = G.ns.length
  u : Gm.U32 s
  sd : ∀ i t : Nat, (s.getD i 0).testBit t = true → Gm.Fw G t (i : Int)
  e : (s.getD G.st.toNat 0).testBit G.ts.length = true
theorem FwP.start {G : Gm.Gr} (hok : Gm.Ok G) : FwP G (Gm.flw0 G) := by
  refine ⟨by unfold Gm.flw0; simp, fun i => ?_, fun i t h => Gm.flw0_snd hok i t h, Gm.flw0_st hok⟩
  have h24 := ((Gm.terms_iff G.ts).1 hok.t).1
  refine Nat.lt_pow_two_of_testBit (n := 32) _ fun t ht => ?_
  cases hb : ((Gm.flw0 G).getD i 0).testBit t
  · rfl
  · have := Gm.fw_le hok (Gm.flw0_snd hok i t hb)
    omega
theorem FwP.step {G : Gm.Gr} (hf : Gm.Fit G) (hok : Gm.Ok G) {x : Gm.Rl} (hx : x ∈ G.rs) : ∀ (ys : List (Int × List Int)) (s : List Nat), (∀ y ∈ ys, y ∈ Gm.sufs x.r) → FwP G s → FwP G (ys.foldl (Gm.fwN1 (Gm.gn false G.rs G.ns.length) (Gm.fst G) x.l) s)
  | [], _, _, h => h
  | y :: ys, s, hy, h => by
    refine FwP.step hf hok hx ys _ (fun z hz => hy z (List.mem_cons_of_mem _ hz)) ⟨?_, ?_, fun i t hb => Gm.flw_step hok h.sd hx (hy y (List.mem_cons_self ..)) i t hb, ?_⟩
    · rw [Gm.fwN1_len]; exact h.l
    · exact Gm.U32.fw (Gm.fst_u32 hok) h.u (rlIn hf hok hx) (hy y (List.mem_cons_self ..))
    · unfold Gm.fwN1; split
      · exact (Gm.addN_bit _ _ _ _ _).2 (.inl h.e)
      · exact h.e
theorem Gm.fwNX_le (nu : List Bool) (F s : List Nat) (x : Gm.Rl) : Gm.NLe s (Gm.fwNX nu F s x) := Gm.NLe.fold (Gm.fwN1_le nu F x.l) _ s

set_option maxHeartbeats 16000000 in
theorem follow_any (v : Value) (G : Gm.Gr) (B : Nat) (w : World) (hg : RdGr w B v G) (hf : Gm.Fit G) (hB : B ≤ w.heap.size) :
    Calls Tryz.prog 11 #[v] w (RowZm (Gm.right G) (Gm.flw G) w) := by
  have H1 := hide (fun (x : World) (h : Below w.heap.size w x) => gright_any v G B x (hg.below h hB) hf (Nat.le_trans hB h.size))
  have H2 := hide (fun (q : Gm.right G = true) (x : World) (h : Below w.heap.size w x) => knownOf_any v G B x (hg.below h hB) hf (Gm.right_ok.1 q) (Nat.le_trans hB h.size))
  have HED := hide (fun (x : World) (h : Below w.heap.size w x) => fEnd_any v G B x (hg.below h hB))
  obtain ⟨AT, cT, AN, cN, AR, cR, rfl, _, ⟨hlN, hmN⟩, _, _, _, hR⟩ := hg
  have HS0 := hide (One.start w #[.slice AT G.ts.length cT, .slice AN G.ns.length cN, .slice AR G.rs.length cR, .int .i64 G.st])
  have HRl := hide hR
  have HB := hide hB
  have HFT := hide hf
  clear hf hR hB
  cases q : Gm.right G
  · rw [q] at H1
    clear q H2
    go_enter Tryz.func11, Tryz.ntmps11
    go_wp2_with fail
    refine (H1.out _ HS0.out.below).mono ?_; rintro _ w2 ⟨rfl, hb⟩
    have HB2 := hide (HS0.out.on hb)
    clear hb
    go_wp2
    go_ret
    exact ⟨fun h => by simp at h, fun _ => ⟨rfl, HB2.out.below⟩⟩
  · have HOK := hide (Gm.right_ok.1 q)
    have HN : Hid (G.ns.length ≤ 40) := hide (by have := (Gm.nons_iff G).1 HOK.out.n; omega)
    have HR40 : Hid (G.rs.length ≤ 40) := hide HOK.out.r40
    have H2 := hide (H2.out q)
    rw [q] at H1
    clear q
    have hnn := HN.out
    have hlen : (G.ns.length : Int) ≤ 9223372036854775807 := by omega
    go_enter Tryz.func11, Tryz.ntmps11
    go_upto_region 3 with fail
    refine (H1.out _ HS0.out.below).mono ?_; rintro _ w2 ⟨rfl, hb⟩
    have HB2 := hide (HS0.out.on hb)
    clear hb
    go_upto_region 3 with fail
    have HW2 : Hid (Below w.heap.size w w2) := hide HB2.out.below
    have HBX := hide ((Below.block HB2.out w.heap.size (by omega)).trans (heap_alloc_new w _))
    have hd1 : w.heap.size < w2.heap.size := HB2.out.size
    have HF := hide (Gm.fst_u32 HOK.out)
    obtain ⟨T, hT⟩ : ∃ x, x = Gm.gn false G.rs G.ns.length := ⟨_, rfl⟩
    have HTl : Hid (T.length = G.ns.length) := hide (by rw [hT, Gm.gn_len])
    have HT := hide hT
    have H3 := hide (fun (x : World) (h : Below w2.heap.size w2 x) => H2.out x (HW2.out.trans (h.mono (Nat.le_of_lt hd1))))
    have HED := hide (fun (x : World) (h : Below w2.heap.size w2 x) => HED.out x (HW2.out.trans (h.mono (Nat.le_of_lt hd1))))
    have q0 := fun y : Calm.On w2.heap.size w2 => (y.2.cell (p := ⟨w.heap.size, 0, none⟩) hd1).trans (HB2.out.c 0 _ rfl)
    have q1 := fun y : Calm.On w2.heap.size w2 => (y.2.cell (p := ⟨w.heap.size, 1, none⟩) hd1).trans (HB2.out.c 1 _ rfl)
    have q2 := fun y : Calm.On w2.heap.size w2 => (y.2.cell (p := ⟨w.heap.size, 2, none⟩) hd1).trans (HB2.out.c 2 _ rfl)
    have q3 := fun y : Calm.On w2.heap.size w2 => (y.2.cell (p := ⟨w.heap.size, 3, none⟩) hd1).trans (HB2.out.c 3 _ rfl)
    unfold KnAns at H3
    rw [← hT] at H3
    obtain ⟨F, hFe⟩ : ∃ F, F = Gm.fst G := ⟨_, rfl⟩
    have HFl : Hid (F.length = G.ns.length) := hide (by rw [hFe, Gm.fst_len])
    rw [← hFe] at HF H3
    have HFE := hide hFe
    clear H1 HS0 H2 hT hFe
    refine CalmN.region_dep (fun x => ∃ y : Calm.On w2.heap.size w2, x = y.1) [0, 2, 3, 4] [1, 5, 6, 7, 8] [(8, 1), (8, 6)] (.one [] 9 (.fin []))
      (fun todo a wx => ∃ x9 x13 x3 x4 g1 h5 g5 c6 c7, a = { tmps := #[.agg #[.slice AT G.ts.length cT, .slice AN G.ns.length cN, .slice AR G.rs.length cR, .int .i64 G.st], .pointer (some ⟨w.heap.size, 0, none⟩), .slice none 0 0, x3, x4, .agg #[.slice AT G.ts.length cT, .slice AN G.ns.length cN, .slice AR G.rs.length cR, .int .i64 G.st], .bool true, .bool false, .agg #[.slice AT G.ts.length cT, .slice AN G.ns.length cN, .slice AR G.rs.length cR, .int .i64 G.st], x9, .pointer (some ⟨w.heap.size, 1, none⟩), .slice AN G.ns.length cN, .int .i64 G.ns.length, x13, undef, undef, undef, undef, undef, undef, undef, undef, undef, undef, undef, undef, undef], defers := [] } ∧ JF w2 G.ns.length T F todo wx x9 x13 x3 x4 g1 h5 g5 c6 c7)
      (by kernel_rfl) (by kernel_rfl) (fun _ _ d _ _ h => by cases d <;> exact h) ⟨⟨w2.drew, below_drewN (Below.refl _ _) 1⟩, rfl⟩ ?_ ?_ ?_
    · simp only [CalmN.pickOps, List.getElem?_toArray, List.getElem?_cons_zero, List.getElem?_cons_succ]
      repeat (go_big_quiet_step (fail))
      refine wpQuiet_nil ?_
      exact ⟨undef, undef, undef, undef, 0, 0, 0, 0, 0, rfl, ⟨by simp, by decide, below_drewN (Below.refl _ _) 1, fun h => absurd (by simp) h, fun h => absurd (by simp) h, fun h => absurd (by simp) h, fun h => absurd (by simp) h, fun h => absurd (by simp) h, fun h => absurd (by simp) h⟩⟩
    · intro todo k a wx hk hD hJ hS
      obtain ⟨x9, x13, x3, x4, g1, h5, g5, c6, c7, rfl, hJ⟩ := hJ
      have HJ := hide hJ
      have hcase := hJ.t k hk
      have HK := hide hk
      have HD := hide hD
      clear hJ hS hk hD q0 q1 q2 q3
      rcases hcase with rfl | rfl | rfl | rfl | rfl
      · simp only [CalmN.wpSt, List.getElem?_toArray, List.getElem?_cons_zero, List.getElem?_cons_succ]
        intro KK hKK
        rw [if_pos (by rfl)]
        go_wp2_with fail
        refine (H3.out wx HJ.out.b).mono ?_; rintro _ w' ⟨a, b, rfl, ha, hbb, hu, hv, hb⟩
        have hj := HJ.out.put1 HK.out hb ha hbb hu hv
        go_wp2_with fail
        exact hKK _ _ ⟨⟨w', hj.b⟩, rfl⟩ (fun x => ∃ y : Calm.On w2.heap.size w2, x = y.1) (fun _ h => h) ⟨⟨w', hj.b⟩, rfl⟩ ⟨_, x13, x3, x4, a, b, g5, c6, c7, rfl, hj⟩
      · simp only [CalmN.wpSt, List.getElem?_toArray, List.getElem?_cons_zero, List.getElem?_cons_succ]
        intro KK hKK
        rw [if_pos (by rfl)]
        refine mkU_wp (.tmp 12) (.tmp 12) _ rfl Tryz.underlying30 G.ns.length rfl rfl (by omega) ?_
        intro w' hu hb
        have hj := HJ.out.put5 hb hu
        exact hKK _ _ ⟨⟨w', hj.b⟩, rfl⟩ (fun x => ∃ y : Calm.On w2.heap.size w2, x = y.1) (fun _ h => h) ⟨⟨w', hj.b⟩, rfl⟩ ⟨x9, _, x3, x4, g1, h5, _, c6, c7, rfl, hj⟩
      · simp only [CalmN.wpSt, List.getElem?_toArray, List.getElem?_cons_zero, List.getElem?_cons_succ]
        intro KK hKK
        rw [if_pos (by rfl)]
        have hj := HJ.out.put6 HK.out
        go_wp2_with fail
        exact hKK _ _ ⟨⟨_, hj.b⟩, rfl⟩ (fun x => ∃ y : Calm.On w2.heap.size w2, x = y.1) (fun _ h => h) ⟨⟨_, hj.b⟩, rfl⟩ ⟨x9, x13, _, x4, g1, h5, g5, _, c7, rfl, hj⟩
      · simp only [CalmN.wpSt, List.getElem?_toArray, List.getElem?_cons_zero, List.getElem?_cons_succ]
        intro KK hKK
        rw [if_pos (by rfl)]
        have hj := HJ.out.put7
        go_wp2_with fail
        exact hKK _ _ ⟨⟨_, hj.b⟩, rfl⟩ (fun x => ∃ y : Calm.On w2.heap.size w2, x = y.1) (fun _ h => h) ⟨⟨_, hj.b⟩, rfl⟩ ⟨x9, x13, x3, _, g1, h5, g5, c6, _, rfl, hj⟩
      · have m1 := HD.out (8, 1) (by simp) rfl
        have m6 := HD.out (8, 6) (by simp) rfl
        obtain ⟨rfl, _⟩ := HJ.out.h1 m1
        obtain ⟨rfl, _, hc⟩ := HJ.out.h6 m6
        have hc := hc HK.out
        have hj := HJ.out.put8 HK.out m1 m6
        have l7 := (Array.getElem?_eq_some_iff.1 hc).1
        have f7 := frozen_of_row wx _ 0 _ _ hc
        have f8 := frozen_of_row wx _ 1 _ _ hc
        have k7 := cell_of_row wx _ 0 _ _ _ hc
        have k8 := cell_of_row wx _ 1 _ _ _ hc
        have HJ2 := hide hj
        clear hj hc
        simp only [CalmN.wpSt, List.getElem?_toArray, List.getElem?_cons_zero, List.getElem?_cons_succ]
        intro KK hKK
        rw [if_pos (by rfl)]
        go_wp2_with fail
        exact hKK _ _ ⟨⟨_, HJ2.out.b⟩, rfl⟩ (fun x => ∃ y : Calm.On w2.heap.size w2, x = y.1) (fun _ h => h) ⟨⟨_, HJ2.out.b⟩, rfl⟩ ⟨_, x13, _, x4, g1, h5, g5, c6, c7, rfl, HJ2.out⟩
    · intro a wx hJ hS
      obtain ⟨x9, x13, x3, x4, g1, h5, g5, c6, c7, rfl, hJ⟩ := hJ
      obtain ⟨rfl, hg1, hh5, hu1, hu5⟩ := hJ.h1 (by simp)
      obtain ⟨rfl, hg5, hm5⟩ := hJ.m (by simp)
      obtain ⟨rfl, hc6, _⟩ := hJ.h6 (by simp)
      obtain ⟨rfl, hc7, hu7⟩ := hJ.h7 (by simp)
      obtain ⟨_, _, hu6⟩ := hJ.h8 (by simp)
      have hd5 := hJ.d (by simp) (by simp)
      have hbx := hJ.b
      clear hS q0 q1 q2 q3 hJ H3
      have l7 := (Array.getElem?_eq_some_iff.1 hu7).1
      have f7 := frozen_of_row wx _ 0 _ _ hu7
      have k7 := cell_of_row wx _ 0 _ _ _ hu7
      have n17 : g1 ≠ c7 := ne_cells hu1 hu7 (by decide)
      have n57 : h5 ≠ c7 := ne_cells hu5 hu7 (by decide)
      have n67 : c6 ≠ c7 := ne_cells hu6 hu7 (by decide)
      have ng7 : g5 ≠ c7 := ne_cells hm5 hu7 (by decide)
      have n1g : g1 ≠ g5 := ne_cells hu1 hm5 (by decide)
      have n6g : c6 ≠ g5 := ne_cells hu6 hm5 (by decide)
      obtain ⟨wy, hwy⟩ : ∃ y, y = wx.setCell ⟨c7, 0, none⟩ (.slice (some ⟨g5, 0, none⟩) G.ns.length G.ns.length) := ⟨_, rfl⟩
      have hby : Below w2.heap.size w2 wy := by rw [hwy]; exact hbx.setCell (p := ⟨c7, 0, none⟩) hc7 _
      have hy1 : UBO wy g1 T := by rw [hwy]; exact UBO.far hu1 n17 _
      have hy5 : UBZ wy h5 F := by rw [hwy]; exact UBZ.far hu5 n57 _
      have hyg : UBZ wy g5 (List.replicate G.ns.length 0) := by rw [hwy]; exact UBZ.far hm5 ng7 _
      have hy6 : wy.heap[c6]? = some (.cells #[.slice (some ⟨g1, 0, none⟩) G.ns.length G.ns.length, .slice (some ⟨h5, 0, none⟩) G.ns.length G.ns.length] 48 (0, 0)) := by rw [hwy]; exact (Below.heap_setCell wx ⟨c7, 0, none⟩ _ c6 n67).trans hu6
      have hy7 : wy.heap[c7]? = some (.cells #[.slice (some ⟨g5, 0, none⟩) G.ns.length G.ns.length] 30 (0, 0)) := by rw [hwy]; exact heap_setCell_same wx c7 0 _ _ _ hu7
      have HNE := hide (And.intro hd5 (And.intro n1g (And.intro n6g (And.intro ng7 (And.intro hg5 (And.intro hc7 hby))))))
      clear hu1 hu5 hm5 hu6 hu7 hbx n17 n57 n67 n1g n6g hd5
      simp only [CalmN.wpT, CalmN.wpSt, CalmN.pickOps, List.getElem?_toArray, List.getElem?_cons_zero, List.getElem?_cons_succ]
      refine wpQuiet_nil ?_
      intro KK hKK
      rw [if_pos (by rfl)]
      go_wp2_with fail
      rw [← hwy]
      refine hKK _ _ ⟨⟨wy, hby⟩, rfl⟩ (fun x => ∃ y : Calm.On w2.heap.size w2, x = y.1) (fun _ h => h) ⟨⟨wy, hby⟩, rfl⟩ ?_
      clear hKK k7 f7 l7 hwy
      refine wpQuiet_nil ?_
      have hgx := (hby.block w.heap.size hd1).trans HBX.out
      have hst := HOK.out.s0
      have hst1 := HOK.out.s1
      obtain ⟨m, hm⟩ : ∃ m : Nat, G.st = (m : Int) := ⟨G.st.toNat, by omega⟩
      have HM := hide hm
      have q0 := fun z : OnB2 c7 w.heap.size wy => cell_of_row z.1 _ 0 _ _ _ (z.2.2.trans hgx)
      have q1 := fun z : OnB2 c7 w.heap.size wy => cell_of_row z.1 _ 1 _ _ _ (z.2.2.trans hgx)
      have q2 := fun z : OnB2 c7 w.heap.size wy => cell_of_row z.1 _ 2 _ _ _ (z.2.2.trans hgx)
      have q3 := fun z : OnB2 c7 w.heap.size wy => cell_of_row z.1 _ 3 _ _ _ (z.2.2.trans hgx)
      have q7 := fun z : OnB2 c7 w.heap.size wy => cell_of_row z.1 _ 0 _ _ _ (z.2.1.trans hy7)
      have lw : w.heap.size < wy.heap.size := Nat.lt_of_lt_of_le hd1 hby.size
      have l7 := (Array.getElem?_eq_some_iff.1 hy7).1
      have HGX := hide hgx
      have HBY := hide hby
      have hme : (2 : Nat) ^ G.ts.length = S.bit (G.ts.length : Int) := (S.bit_nat (by have := ((Gm.terms_iff G.ts).1 HOK.out.t).1; omega)).symm
      have HFL0 : Hid ((List.replicate G.ns.length 0).set m (S.bit (G.ts.length : Int)) = Gm.flw0 G) := hide (by unfold Gm.flw0; rw [HM.out, hme]; simp)
      have HBT := hide (fun w => fOnly_any (G.ts.length : Int) w)
      generalize S.bit (G.ts.length : Int) = vb at *
      have hm2 : (m : Int) < (G.ns.length : Int) := by omega
      rw [hm] at q3
      simp only [hm] at *
      clear hst hst1 hgx hby hme
      go_upto_region 4 with fail
      refine CalmN.region_tree (fun x => ∃ z : OnB2 c7 w.heap.size wy, x = z.1) (.one [0, 1, 2, 3] 4 (.one [] 5 (.one [6] 7 (.fin [])))) (by kernel_rfl) (by kernel_rfl) (fun _ _ d _ _ h => by cases d <;> exact h) ⟨⟨wy.drew, rfl, rfl⟩, rfl⟩ ?_
      simp only [CalmN.wpT, CalmN.wpSt, CalmN.pickOps, List.getElem?_toArray, List.getElem?_cons_zero, List.getElem?_cons_succ]
      repeat (go_big_quiet_step (fail))
      refine wpQuiet_nil ?_
      obtain ⟨wd, hwd⟩ : ∃ z, z = wy.drew := ⟨_, rfl⟩
      have HBD : Hid (Below wy.heap.size wy wd) := hide (by rw [hwd]; exact below_drewN (Below.refl _ _) 1)
      have HSB : Hid (∀ z, Below wy.heap.size wy z → ∃ q : OnB2 c7 w.heap.size wy, z = q.1) := hide (fun z hz => ⟨⟨z, hz.block _ l7, hz.block _ lw⟩, rfl⟩)
      rw [← hwd]
      clear hwd q0 q1 q2 q3 q7
      intro KK hKK
      rw [if_pos (by rfl)]
      go_wp2_with fail
      refine (HED.out wd (HBY.out.trans (HBD.out.mono HBY.out.size))).mono ?_; rintro _ w3 ⟨rfl, hb3⟩
      have HB3 := hide (HBD.out.trans (hb3.mono HBD.out.size))
      clear hb3
      go_wp2_with fail
      refine hKK _ _ (HSB.out _ HB3.out) (fun x => ∃ z : OnB2 c7 w.heap.size wy, x = z.1) (fun _ h => h) (HSB.out _ HB3.out) ?_
      clear hKK
      refine wpQuiet_nil ?_
      intro KK hKK
      rw [if_pos (by rfl)]
      go_wp2_with fail
      refine (HBT.out w3).mono ?_; rintro _ w4 ⟨rfl, hb4⟩
      have HB4 := hide (HB3.out.trans (hb4.mono HB3.out.size))
      clear hb4
      go_wp2_with fail
      refine hKK _ _ (HSB.out _ HB4.out) (fun x => ∃ z : OnB2 c7 w.heap.size wy, x = z.1) (fun _ h => h) (HSB.out _ HB4.out) ?_
      clear hKK
      repeat (go_big_quiet_step (fail))
      refine wpQuiet_nil ?_
      have hvg : UBZ w4 g5 (List.replicate G.ns.length 0) := hyg.below HB4.out hyg.lt
      have u5 := hvg.cell m (by simp; omega)
      have f5 := hvg.frozen m
      have l5 := hvg.lt
      obtain ⟨wv, hwv⟩ : ∃ y, y = w4.setCell ⟨g5, m, none⟩ (.int .u32 (vb : Int)) := ⟨_, rfl⟩
      have hbv4 : Below w2.heap.size w2 wv := by rw [hwv]; exact (HBY.out.trans (HB4.out.mono HBY.out.size)).setCell (p := ⟨g5, m, none⟩) HNE.out.2.2.2.2.1 _
      have hvg : UBZ wv g5 (Gm.flw0 G) := by rw [hwv, ← HFL0.out]; exact hvg.set_ m vb
      have hkv : ∀ i, i ≠ g5 → i < wy.heap.size → wv.heap[i]? = wy.heap[i]? := fun i h1 h2 => by rw [hwv, Below.heap_setCell _ _ _ _ (by simp only; exact h1)]; exact HB4.out.block i h2
      have hv1 : UBO wv g1 T := (hkv g1 HNE.out.2.1 hy1.lt).trans hy1
      have hv5 : UBZ wv h5 F := (hkv h5 HNE.out.1 hy5.lt).trans hy5
      have hv6 := (hkv c6 HNE.out.2.2.1 (Array.getElem?_eq_some_iff.1 hy6).1).trans hy6
      have hv7 := (hkv c7 (fun e => HNE.out.2.2.2.1 e.symm) l7).trans hy7
      have hSv : ∃ q : OnB2 c7 w.heap.size wy, wv = q.1 := ⟨⟨wv, hkv c7 (fun e => HNE.out.2.2.2.1 e.symm) l7, hkv w.heap.size (by have := HNE.out.2.2.2.2.1; omega) lw⟩, rfl⟩
      clear hy1 hy5 hyg hy6 hy7 hkv
      intro KK hKK
      rw [if_pos (by rfl)]
      go_wp2_with fail
      rw [← hwv]
      refine hKK _ _ hSv (fun x => ∃ z : OnB2 c7 w.heap.size wy, x = z.1) (fun _ h => h) hSv ?_
      clear hKK hSv u5 f5 l5 hwv
      refine wpQuiet_nil ?_
      have hWv : Below w.heap.size w wv := HW2.out.trans (hbv4.mono (Nat.le_of_lt hd1))
      have hRv : RdRl wv B AR G.rs := HRl.out.keep fun g o hg => hWv.cell (p := ⟨g, o, none⟩) (Nat.lt_of_lt_of_le hg HB.out)
      have u2 := (hbv4.cell (p := ⟨w.heap.size, 2, none⟩) hd1).trans (HB2.out.c 2 _ rfl)
      have u7 := cell_of_row wv _ 0 _ _ _ hv7
      have l7 := (Array.getElem?_eq_some_iff.1 hv7).1
      have lw : w.heap.size < wv.heap.size := Nat.lt_of_lt_of_le hd1 hbv4.size
      have hBg : B ≤ g5 := by have := HB.out; have := HNE.out.2.2.2.2.1; omega
      have hGR := fgrow_any 25 #[.pointer (some ⟨c6, 0, none⟩), .pointer (some ⟨c7, 0, none⟩)] (enter_of Tryz.func25 (by kernel_rfl) (by kernel_rfl)) G.rs AR cR G.ns.length B g5 G.ns.length wv (Gm.flw0 G) (FwP G) (Gm.fwNX T F)
        hRv (Nat.le_trans HB.out hWv.size) hBg hvg (FwP.start HOK.out).l (FwP.start HOK.out) (by have := HR40.out; omega) (fun s x => Gm.fwNX_le T F s x) (fun s x hx h => by rw [HT.out, HFE.out]; exact FwP.step HFT.out HOK.out hx _ s (fun _ h => h) h) (fun s h => h.u)
        (fun y s b x A' c' hG hP hx hr hlc => follow1_any wv y g5 G.ns.length G.ns.length c6 c7 g1 h5 G.ts.length s b T F A' c' B x hG hv6 hv7 hv1 hv5 HTl.out HFl.out HF.out HNE.out.2.1 HNE.out.1 HNE.out.2.2.1 (fun e => HNE.out.2.2.2.1 e.symm) hr hlc (Nat.le_trans HB.out hWv.size) hBg hP.u (rlIn HFT.out HOK.out hx))
      have HGR := hide hGR
      have HX : Hid (∀ (y : World) (s : List Nat), FwP G s → (∀ x ∈ G.rs, Gm.fwNX T F s x = s) → UBZ y g5 s → wv.grownBy y (some g5) → UBZ y g5 (Gm.flw G) ∧ y.heap[c7]? = some (.cells #[.slice (some ⟨g5, 0, none⟩) G.ns.length G.ns.length] 30 (0, 0)) ∧ Below w2.heap.size w2 y) := hide (fun y s hP hc hu hg => by
        rw [HT.out, HFE.out] at hc
        rw [← Gm.flw_row HOK.out hP.l hP.sd hP.e hc]
        exact ⟨hu, (hg.block c7 l7 (fun e => by injection e with e; exact HNE.out.2.2.2.1 e.symm)).trans hv7, below_only hbv4 hg HNE.out.2.2.2.2.1 hbv4.size⟩)
      clear hGR hv1 hv5 hv6 hv7 hRv hWv hvg hBg hg1 hh5 hg5 hc6 hc7 hnn HT HFE
      go_wp2_with fail
      refine HGR.out.mono ?_; rintro _ w5 ⟨rfl, s, hP, hc, hu, hsl, hgr⟩
      obtain ⟨hu5, hu7, hb5⟩ := HX.out w5 s hP hc hu hgr
      have u75 := cell_of_row w5 _ 0 _ _ _ hu7
      have l75 := (Array.getElem?_eq_some_iff.1 hu7).1
      have HU5 := hide hu5
      have HB5 := hide hb5
      clear hP hc hu hsl hgr hu5 hu7 hb5 HX HGR u2 u7 lw l7
      go_wp2
      go_ret
      exact ⟨fun _ => ⟨g5, by rw [Gm.flw_len]; rfl, by have := HNE.out.2.2.2.2.1; omega, HU5.out, HW2.out.trans (HB5.out.mono (Nat.le_of_lt hd1))⟩, fun h => by simp at h⟩
end Go.Proofs.YthjohhcgegcmhaaGreat

namespace Go.Proofs.YthjohhcgegcmhaaGreat
set_option maxRecDepth 100000
open Go.RowKit

theorem sets_same (A A' : Option Addr) (ca cb n : Nat) (s : List Nat) (w : World) (hra : RdZ w w.heap.size A s) (hrb : RdZ w w.heap.size A' s) (hxl : s.length ≤ 9223372036854775807) (hn : n = s.length) :
    Calls Tryz.prog 8 #[.slice A n ca, .slice A' n cb] w fun e w' => e = .returned (.bool true) ∧ ∃ n, w' = w.drewN n := by
  have h := sets_any A A' ca cb (zi s) (zi s) w hra hrb (by rw [zi_len]; exact hxl) (by rw [zi_len]; exact hxl)
  rw [zi_len] at h
  subst hn
  exact h.mono fun e w' h => ⟨by rw [h.1, decide_eq_true rfl], h.2⟩
theorem litZ (w : World) (s : List Nat) : RdZ (w.alloc (cellsU (zi s))) (w.alloc (cellsU (zi s))).heap.size (some ⟨w.heap.size, 0, none⟩) s := (litU1 w (zi s)).1
def gr012 : Gm.Gr := ⟨[], [], [], 0⟩
theorem gr012_rd (w : World) (B : Nat) : RdGr w B (.agg #[.slice none 0 0, .slice none 0 0, .slice none 0 0, .int .i64 0]) gr012 := ⟨none, 0, none, 0, none, 0, rfl, by simp [gr012], by simp [gr012], by simp [gr012], fun h => absurd rfl h, fun h => absurd rfl h, fun h => absurd rfl h⟩
theorem gr012_fit : Gm.Fit gr012 := ⟨by simp [gr012], by simp [gr012], by simp [gr012], by unfold Gm.In; simp [gr012]⟩
theorem build_gr12 (w : World) : (Instr.build 26 #[]).run Tryz.prog w = .ok (.agg #[.slice none 0 0, .slice none 0 0, .slice none 0 0, .int .i64 0]) w := run_build w 26 _ _ (by kernel_rfl)
theorem ofG12 (l : List Int) (h : l.all (Gm.has gt12) = true) : Gm.ofG gt12 l 8 = Gm.ofN (Gm.gn false gt12.rs gt12.ns.length) (Gm.fst gt12) 8 l := by unfold Gm.ofG; rw [if_pos ⟨right12, h⟩]
theorem of12_1 : Gm.ofG gt12 [-2] 8 = 10 := (ofG12 _ (by decide +kernel)).trans of12a
theorem of12_2 : Gm.ofG gt12 [-2, 0] 8 = 3 := (ofG12 _ (by decide +kernel)).trans of12b
theorem of12_3 : Gm.ofG gt12 [] 8 = 8 := ofG12 _ rfl
theorem of12_4 : Gm.ofG gt12 [2] 8 = 0 := by unfold Gm.ofG; rw [if_neg (by rintro ⟨_, h⟩; exact absurd h (by decide +kernel))]
set_option maxHeartbeats 8000000 in
theorem alive12_any (w : World) : Calls Tryz.prog 6 #[] w fun e w' => e = .returned (.bool true) ∧ Below w.heap.size w w' := by
  have T1 := hide (gread_const et12 gt12 (by decide) (by decide) gre12 w w.heap.size rfl)
  have V1 := hide (fun w : World => show (convert 44 44 (.slice (some ⟨w.heap.size, 0, none⟩) 26 26)).run Tryz.prog (w.alloc (.cells #[.int .u8 37, .int .u8 37, .int .u8 32, .int .u8 115, .int .u8 32, .int .u8 58, .int .u8 32, .int .u8 110, .int .u8 32, .int .u8 39, .int .u8 97, .int .u8 39, .int .u8 32, .int .u8 59, .int .u8 32, .int .u8 110, .int .u8 32, .int .u8 58, .int .u8 32, .int .u8 39, .int .u8 98, .int .u8 39, .int .u8 32, .int .u8 124, .int .u8 32, .int .u8 59] 5)) = .ok (.slice (some ⟨w.heap.size, 0, none⟩) 26 26) (w.alloc (cellsM et12)) from lit_conv w et12 26 26)
  have U1 := V1.out w
  have hbg := fun w => build_gr12 w
  have hl1 : et12.length = 26 := rfl
  rw [hl1] at T1
  clear V1 hl1
  go_enter Tryz.func6, Tryz.ntmps6
  go_wp2_with fail
  refine T1.out.mono ?_; rintro _ w1 ⟨⟨g, rfl, hg1, hft1⟩, hb1⟩
  have HFI := hide (fun (x : World) (h : Below w1.heap.size w1 x) => (show Calls _ _ _ _ (RowZn _ _) from (fst_any g gt12 w1.heap.size x (hg1.below h (Nat.le_refl _)) hft1 h.size).mono fun e w' k => k.1 right12))
  have HFW := hide (fun (x : World) (h : Below w1.heap.size w1 x) => (show Calls _ _ _ _ (RowZn _ _) from (follow_any g gt12 w1.heap.size x (hg1.below h (Nat.le_refl _)) hft1 h.size).mono fun e w' k => k.1 right12))
  have HOF := hide (fun (l : List Int) (A : Option Addr) (c : Nat) (x : World) (h : Below w1.heap.size w1 x) (hr : RdI x x.heap.size A l) (hi : ∀ z ∈ l, Gm.In z) (hl : l.length ≤ 9223372036854775807) => of_any g gt12 l 8 A c x.heap.size x ((hg1.below h (Nat.le_refl _)).more h.size) hft1 (Nat.le_refl _) hr hi hl (by decide))
  rw [fst12] at HFI
  rw [flw12] at HFW
  obtain ⟨AT, cT, AN, cN, AR, cR, rfl, _, _, _, _, _, _⟩ := hg1
  have HQ1 := hide (One.start w1 #[.slice AT gt12.ts.length cT, .slice AN gt12.ns.length cN, .slice AR gt12.rs.length cR, .int .i64 gt12.st])
  have HY1 := hide (fun (x : World) (h : One w1 #[.slice AT gt12.ts.length cT, .slice AN gt12.ns.length cN, .slice AR gt12.rs.length cR, .int .i64 gt12.st] x) => And.intro (h.c 0 _ rfl) (And.intro (h.c 1 _ rfl) (And.intro (h.c 2 _ rfl) (h.c 3 _ rfl))))
  have HBF := hide (fun (x : World) (h : One w1 #[.slice AT gt12.ts.length cT, .slice AN gt12.ns.length cN, .slice AR gt12.rs.length cR, .int .i64 gt12.st] x) => hb1.trans (h.below.mono hb1.size))
  have hs1 : ∀ (x : World) (o : Obj), (x.alloc o).heap.size = x.heap.size + 1 := fun x o => by simp
  clear hb1 U1 T1 hft1
  go_wp2_with fail
  refine (HFI.out _ HQ1.out.below).mono ?_; rintro _ w2 ⟨q2, rfl, hq2, hu2, hb2⟩
  have HK2 := hide (HQ1.out.on hb2)
  have HS2 := hide (show Calls Tryz.prog 8 #[.slice (some ⟨q2, 0, none⟩) 2 2, .slice (some ⟨w2.heap.size, 0, none⟩) 2 2] (w2.alloc (.cells #[.int .u32 3, .int .u32 2] 33)) _ from sets_same (some ⟨q2, 0, none⟩) (some ⟨w2.heap.size, 0, none⟩) 2 2 2 [3, 2] (w2.alloc (cellsU (zi [3, 2]))) ((RdU.alloc (hu2.rd hu2.lt) (Nat.le_refl _) _).more (by simp)) (litZ w2 [3, 2]) (by decide) rfl)
  clear hq2 hu2 hb2 HFI
  go_wp2_with fail
  refine HS2.out.mono ?_; rintro _ w3 ⟨rfl, n3, hw3⟩
  have HK3 : Hid (One w1 #[.slice AT gt12.ts.length cT, .slice AN gt12.ns.length cN, .slice AR gt12.rs.length cR, .int .i64 gt12.st] w3) := hide (by rw [hw3]; exact (HK2.out.alloc _).drewN _)
  obtain ⟨x0, x1, x2, x3⟩ := HY1.out w3 HK3.out
  have l1 : w1.heap.size < w3.heap.size := HK3.out.size
  clear hw3 HS2
  go_wp2_with fail
  clear x0 x1 x2 x3 l1
  refine (HFW.out w3 HK3.out.below).mono ?_; rintro _ w4 ⟨q4, rfl, hq4, hu4, hb4⟩
  have HK4 := hide (HK3.out.on hb4)
  have HS4 := hide (show Calls Tryz.prog 8 #[.slice (some ⟨q4, 0, none⟩) 2 2, .slice (some ⟨w4.heap.size, 0, none⟩) 2 2] (w4.alloc (.cells #[.int .u32 4, .int .u32 1] 33)) _ from sets_same (some ⟨q4, 0, none⟩) (some ⟨w4.heap.size, 0, none⟩) 2 2 2 [4, 1] (w4.alloc (cellsU (zi [4, 1]))) ((RdU.alloc (hu4.rd hu4.lt) (Nat.le_refl _) _).more (by simp)) (litZ w4 [4, 1]) (by decide) rfl)
  clear hq4 hu4 hb4 HFW
  go_wp2_with fail
  refine HS4.out.mono ?_; rintro _ w5 ⟨rfl, n5, hw5⟩
  have HK5 : Hid (One w1 #[.slice AT gt12.ts.length cT, .slice AN gt12.ns.length cN, .slice AR gt12.rs.length cR, .int .i64 gt12.st] w5) := hide (by rw [hw5]; exact (HK4.out.alloc _).drewN _)
  obtain ⟨x0, x1, x2, x3⟩ := HY1.out w5 HK5.out
  have l1 : w1.heap.size < w5.heap.size := HK5.out.size
  clear hw5 HS4
  have HO6 := hide (show Calls Tryz.prog 13 #[.agg #[.slice AT gt12.ts.length cT, .slice AN gt12.ns.length cN, .slice AR gt12.rs.length cR, .int .i64 gt12.st], .slice (some ⟨w5.heap.size, 0, none⟩) 1 1, .int .u32 8] (w5.alloc (.cells #[.int .i64 (-2)] 3)) (fun e w' => e = .returned (.int .u32 10) ∧ Below (w5.alloc (cellsI [-2])).heap.size (w5.alloc (cellsI [-2])) w') from by have h := HOF.out [-2] (some ⟨w5.heap.size, 0, none⟩) 1 (w5.alloc (cellsI [-2])) (HK5.out.alloc (cellsI [-2])).below (litI1 w5 [-2]).1 (by unfold Gm.In; simp) (by simp); rw [of12_1] at h; exact h)
  go_wp2_with fail
  refine HO6.out.mono ?_; rintro _ w6 ⟨rfl, hb6⟩
  have HK6 : Hid (One w1 #[.slice AT gt12.ts.length cT, .slice AN gt12.ns.length cN, .slice AR gt12.rs.length cR, .int .i64 gt12.st] w6) := hide ((HK5.out.alloc (cellsI [-2])).on hb6)
  clear x0 x1 x2 x3 l1 hb6 HO6
  obtain ⟨x0, x1, x2, x3⟩ := HY1.out w6 HK6.out
  have l1 : w1.heap.size < w6.heap.size := HK6.out.size
  have HO7 := hide (show Calls Tryz.prog 13 #[.agg #[.slice AT gt12.ts.length cT, .slice AN gt12.ns.length cN, .slice AR gt12.rs.length cR, .int .i64 gt12.st], .slice (some ⟨w6.heap.size, 0, none⟩) 2 2, .int .u32 8] (w6.alloc (.cells #[.int .i64 (-2), .int .i64 0] 3)) (fun e w' => e = .returned (.int .u32 3) ∧ Below (w6.alloc (cellsI [-2, 0])).heap.size (w6.alloc (cellsI [-2, 0])) w') from by have h := HOF.out [-2, 0] (some ⟨w6.heap.size, 0, none⟩) 2 (w6.alloc (cellsI [-2, 0])) (HK6.out.alloc (cellsI [-2, 0])).below (litI1 w6 [-2, 0]).1 (by unfold Gm.In; simp) (by simp); rw [of12_2] at h; exact h)
  go_wp2_with fail
  refine HO7.out.mono ?_; rintro _ w7 ⟨rfl, hb7⟩
  have HK7 : Hid (One w1 #[.slice AT gt12.ts.length cT, .slice AN gt12.ns.length cN, .slice AR gt12.rs.length cR, .int .i64 gt12.st] w7) := hide ((HK6.out.alloc (cellsI [-2, 0])).on hb7)
  clear x0 x1 x2 x3 l1 hb7 HO7
  obtain ⟨x0, x1, x2, x3⟩ := HY1.out w7 HK7.out
  have l1 : w1.heap.size < w7.heap.size := HK7.out.size
  have HO8 := hide (show Calls Tryz.prog 13 #[.agg #[.slice AT gt12.ts.length cT, .slice AN gt12.ns.length cN, .slice AR gt12.rs.length cR, .int .i64 gt12.st], .slice none 0 0, .int .u32 8] w7 (fun e w' => e = .returned (.int .u32 8) ∧ Below w7.heap.size w7 w') from by have h := HOF.out [] none 0 w7 HK7.out.below (RdI.nil _ _ _) (by simp) (by simp); rw [of12_3] at h; exact h)
  go_wp2_with fail
  refine HO8.out.mono ?_; rintro _ w8 ⟨rfl, hb8⟩
  have HK8 : Hid (One w1 #[.slice AT gt12.ts.length cT, .slice AN gt12.ns.length cN, .slice AR gt12.rs.length cR, .int .i64 gt12.st] w8) := hide (HK7.out.on hb8)
  clear x0 x1 x2 x3 l1 hb8 HO8
  obtain ⟨x0, x1, x2, x3⟩ := HY1.out w8 HK8.out
  have l1 : w1.heap.size < w8.heap.size := HK8.out.size
  have HO9 := hide (show Calls Tryz.prog 13 #[.agg #[.slice AT gt12.ts.length cT, .slice AN gt12.ns.length cN, .slice AR gt12.rs.length cR, .int .i64 gt12.st], .slice (some ⟨w8.heap.size, 0, none⟩) 1 1, .int .u32 8] (w8.alloc (.cells #[.int .i64 2] 3)) (fun e w' => e = .returned (.int .u32 0) ∧ Below (w8.alloc (cellsI [2])).heap.size (w8.alloc (cellsI [2])) w') from by have h := HOF.out [2] (some ⟨w8.heap.size, 0, none⟩) 1 (w8.alloc (cellsI [2])) (HK8.out.alloc (cellsI [2])).below (litI1 w8 [2]).1 (by unfold Gm.In; simp) (by simp); rw [of12_4] at h; exact h)
  go_wp2_with fail
  refine HO9.out.mono ?_; rintro _ w9 ⟨rfl, hb9⟩
  have HK9 : Hid (One w1 #[.slice AT gt12.ts.length cT, .slice AN gt12.ns.length cN, .slice AR gt12.rs.length cR, .int .i64 gt12.st] w9) := hide ((HK8.out.alloc (cellsI [2])).on hb9)
  clear x0 x1 x2 x3 l1 hb9 HO9
  obtain ⟨x0, x1, x2, x3⟩ := HY1.out w9 HK9.out
  have l1 : w1.heap.size < w9.heap.size := HK9.out.size
  have HE := hide (show Calls _ _ _ _ (RowZm _ _ _) from fst_any _ gr012 w9.heap.size w9 (gr012_rd w9 _) gr012_fit (Nat.le_refl _))
  clear HOF
  go_wp2_with fail
  refine HE.out.mono ?_; rintro _ w10 hr
  obtain ⟨rfl, hb⟩ := hr.2 (by decide +kernel)
  have HK10 := hide (HK9.out.on hb)
  clear hr hb x0 x1 x2 x3 l1
  go_wp2
  go_ret
  exact ⟨rfl, HBF.out _ HK10.out⟩
end Go.Proofs.YthjohhcgegcmhaaGreat

namespace Go.Proofs.YthjohhcgegcmhaaGreat
set_option maxRecDepth 100000
open Go.RowKit

theorem Gm.growP_take {tm : Bool} {rs : List Gm.Rl} {k : Nat} (h : k < rs.length) (s : List Bool) : (rs.take (k + 1)).foldl (Gm.grow1 tm) s = Gm.grow1 tm ((rs.take k).foldl (Gm.grow1 tm) s) rs[k] := by
  rw [List.take_succ_eq_append_getElem h, List.foldl_append]; rfl
theorem Gm.growP_len (tm : Bool) (rs : List Gm.Rl) (s : List Bool) : (rs.foldl (Gm.grow1 tm) s).length = s.length := ((Gm.foldl_le _ (Gm.grow1_le tm) rs s).len).symm
set_option maxHeartbeats 4000000 in
theorem rgrown_any (tm : Bool) (v : Value) (G : Gm.Gr) (B : Nat) (w : World) (hg : RdGr w B v G) (hf : Gm.Fit G) (hB : B ≤ w.heap.size) :
    Calls Tryz.prog 36 #[v, .bool tm] w (RowB (Gm.right G) (Gm.gn tm G.rs G.ns.length) w) := by
  have H1 := hide (fun (x : World) (h : Below w.heap.size w x) => rright_any v G B x (hg.below h hB) hf (Nat.le_trans hB h.size))
  obtain ⟨AT, cT, AN, cN, AR, cR, rfl, _, ⟨hlN, hmN⟩, ⟨hlR, hmR⟩, _, _, hR⟩ := hg
  have HS0 := hide (One.start w #[.slice AT G.ts.length cT, .slice AN G.ns.length cN, .slice AR G.rs.length cR, .int .i64 G.st])
  have HRl := hide hR
  have HB := hide hB
  have HFT := hide hf
  clear hf hR hB
  cases q : Gm.right G
  · rw [q] at H1
    clear q
    go_enter Tryz.func36, Tryz.ntmps36
    go_wp2_with fail
    refine (H1.out _ HS0.out.below).mono ?_; rintro _ w2 ⟨rfl, hb⟩
    have HB2 := hide (HS0.out.on hb)
    clear hb
    go_wp2
    go_ret
    exact ⟨fun h => by simp at h, fun _ => ⟨rfl, HB2.out.below⟩⟩
  · have HOK := hide (Gm.right_ok.1 q)
    have HN : Hid (G.ns.length ≤ 40) := hide (by have := (Gm.nons_iff G).1 HOK.out.n; omega)
    have HR40 : Hid (G.rs.length ≤ 40) := hide HOK.out.r40
    rw [q] at H1
    clear q
    have hnn := HN.out
    have hlen : (G.ns.length : Int) ≤ 9223372036854775807 := by omega
    have hlen2 : (G.rs.length : Int) ≤ 9223372036854775807 := by omega
    go_enter Tryz.func36, Tryz.ntmps36
    go_wp2_with fail
    refine (H1.out _ HS0.out.below).mono ?_; rintro _ w2 ⟨rfl, hb⟩
    have HB2 := hide (HS0.out.on hb)
    have q1 := HB2.out.c 1 _ rfl
    have hd1 : w.heap.size < w2.heap.size := HB2.out.size
    clear hb
    go_upto_region 4 with (at_make; refine mkO_arm rfl (.tmp 13) (.tmp 13) _ rfl Tryz.underlying36 G.ns.length _ _ rfl rfl rfl rfl (by omega) ?_; intro w3 hu3 hb3 hlt3)
    have HB3 := hide (HB2.out.on hb3)
    have HU3 := hide hu3
    have HGK : Hid (w.heap.size < w2.heap.size) := hide hd1
    clear hu3 hb3 hlt3 q1 hd1 HS0 H1
    go_wp2
    go_loopw [6] (fun vn wr => ∃ n : Nat, n ≤ G.ns.length ∧ vn = .int .i64 n ∧ Hid (UBO wr w2.heap.size (Gm.times (Gm.growP tm G.rs) n (List.replicate G.ns.length false))) ∧ Hid (One w #[.slice AT G.ts.length cT, .slice AN G.ns.length cN, .slice AR G.rs.length cR, .int .i64 G.st] wr)) (fun vn _ => G.ns.length - (intOf vn).toNat)
    case atStart => exact ⟨0, Nat.zero_le _, rfl, HU3, HB3⟩
    case round =>
      obtain ⟨n, hn, rfl, HU, HW⟩ := hrel
      obtain ⟨wo, hwo⟩ : ∃ wo : World, wo = wr := ⟨_, rfl⟩
      subst hwo
      have q1 := HW.out.c 1 _ rfl
      have ld : w.heap.size < wo.heap.size := HW.out.size
      clear HU3 HB3
      by_cases hlt : n < G.ns.length
      · have HSL : Hid ((Gm.times (Gm.growP tm G.rs) n (List.replicate G.ns.length false)).length = G.ns.length) := hide (by have := (Gm.times_le (f := Gm.growP tm G.rs) (fun s => Gm.foldl_le _ (Gm.grow1_le tm) G.rs s) n (List.replicate G.ns.length false)).len; rw [← this]; simp)
        have HNX : Hid (Gm.times (Gm.growP tm G.rs) (n + 1) (List.replicate G.ns.length false) = G.rs.foldl (Gm.grow1 tm) (Gm.times (Gm.growP tm G.rs) n (List.replicate G.ns.length false))) := hide rfl
        generalize Gm.times (Gm.growP tm G.rs) n (List.replicate G.ns.length false) = s at *
        go_wp2
        go_loopw [7] (fun vi wr => ∃ i : Nat, i ≤ G.rs.length ∧ vi = .int .i64 i ∧ Hid (UBO wr w2.heap.size ((G.rs.take i).foldl (Gm.grow1 tm) s)) ∧ Hid (One w #[.slice AT G.ts.length cT, .slice AN G.ns.length cN, .slice AR G.rs.length cR, .int .i64 G.st] wr)) (fun vi _ => G.rs.length - (intOf vi).toNat)
        case atStart => exact ⟨0, Nat.zero_le _, rfl, HU, HW⟩
        case round =>
          clear HU HW q1 ld
          obtain ⟨i, hi, rfl, HU, HW⟩ := hrel
          have q2 := HW.out.c 2 _ rfl
          have ld : w.heap.size < wr.heap.size := HW.out.size
          by_cases hlt2 : i < G.rs.length
          · obtain ⟨g, o, rfl, hgB, hc⟩ := HRl.out (by omega)
            obtain ⟨k0, ⟨A', c', k1, _, _, hri⟩, _⟩ := hc i hlt2
            have k0 := (HW.out.below.cell (p := ⟨g, o + i * 3, none⟩) (Nat.lt_of_lt_of_le hgB HB.out)).trans k0
            have k1 := (HW.out.below.cell (p := ⟨g, o + i * 3 + 1, none⟩) (Nat.lt_of_lt_of_le hgB HB.out)).trans k1
            have hgs : g < wr.heap.size := by have := HB.out; omega
            have hxm : G.rs[i] ∈ G.rs := List.getElem_mem hlt2
            have e := HFT.out.r _ hxm
            have HCL := hide ((Gm.growP_len tm (G.rs.take i) s).trans HSL.out)
            have HTK := hide (Gm.growP_take (tm := tm) hlt2 s)
            have hxl := HOK.out.lin _ hxm
            have HAL := rall_any G.rs[i].r ((G.rs.take i).foldl (Gm.grow1 tm) s) tm A' (some ⟨w2.heap.size, 0, none⟩) c' G.ns.length B wr.heap.size wr (hri.keep fun g o hg => HW.out.below.cell (p := ⟨g, o, none⟩) (Nat.lt_of_lt_of_le hg HB.out)) e.2.2 (fun z hz h => by rw [HCL.out]; exact HOK.out.sin _ hxm z hz h) (HU.out.rd0 HU.out.lt) (by have := (Gm.rule_in (HOK.out.rr _ hxm)).1; omega)
            rw [HCL.out] at HAL
            have HAL := hide HAL
            have lu := HU.out.lt
            generalize (G.rs.take i).foldl (Gm.grow1 tm) s = cur at *
            generalize G.rs[i] = x at *
            obtain ⟨m, hm⟩ : ∃ m : Nat, x.l = (m : Int) := ⟨x.l.toNat, by omega⟩
            have HM : Hid (x.l.toNat = m) := hide (by rw [hm]; simp)
            have hmn : m < cur.length := by rw [HCL.out]; omega
            have km := HU.out.cell m hmn
            have fm := HU.out.frozen m
            rw [hm] at k0 hxl
            have hmi := hxl.2
            clear hc hri e hxm hm hmn hxl
            cases ha : Gm.allB tm cur x.r
            · rw [ha] at HAL
              have HX := hide (HTK.out.trans (show Gm.grow1 tm cur x = cur by unfold Gm.grow1; rw [if_neg (by rw [ha]; decide)]))
              clear ha HTK
              go_wp2_with fail
              refine HAL.out.mono ?_; rintro _ w4 ⟨rfl, hw4⟩
              subst hw4
              go_wp2
              go_roundw
              case rel => exact ⟨i + 1, hlt2, by go_num, by rw [HX.out]; exact HU, HW⟩
              case measure => simp [intOf]; omega
            · rw [ha] at HAL
              have HX := hide (HTK.out.trans (show Gm.grow1 tm cur x = cur.set m true by unfold Gm.grow1; rw [if_pos ha, HM.out]))
              have HU2 := hide (HU.out.set_ m true)
              have HW2 : Hid (One w #[.slice AT G.ts.length cT, .slice AN G.ns.length cN, .slice (some ⟨g, o, none⟩) G.rs.length cR, .int .i64 G.st] (wr.setCell ⟨w2.heap.size, m, none⟩ (.bool true))) := hide (Below.setCell (p := ⟨w2.heap.size, m, none⟩) HW.out (by have := HGK.out; simp only; omega) _)
              clear ha HTK
              go_wp2_with fail
              refine HAL.out.mono ?_; rintro _ w4 ⟨rfl, hw4⟩
              subst hw4
              go_wp2
              go_roundw
              case rel => exact ⟨i + 1, hlt2, by go_num, by rw [HX.out]; exact HU2, HW2⟩
              case measure => simp [intOf]; omega
          · obtain rfl : i = G.rs.length := by omega
            rw [List.take_length] at HU
            go_wp2
            go_roundw
            case rel => exact ⟨n + 1, hlt, by go_num, by rw [HNX.out]; exact HU, HW⟩
            case measure => simp [intOf]; omega
      · obtain rfl : n = G.ns.length := by omega
        have HE := hide (Gm.grow_gn (tm := tm) HOK.out.lin)
        go_wp2
        go_ret
        exact ⟨fun _ => ⟨w2.heap.size, by rw [Gm.gn_len]; rfl, Nat.le_of_lt HGK.out, by rw [← HE.out]; exact HU.out, HW.out.below⟩, fun h => by simp at h⟩
set_option maxHeartbeats 1000000 in
theorem rnullable_any (v : Value) (G : Gm.Gr) (B : Nat) (w : World) (hg : RdGr w B v G) (hf : Gm.Fit G) (hB : B ≤ w.heap.size) :
    Calls Tryz.prog 16 #[v] w (RowB (Gm.right G) (Gm.gn false G.rs G.ns.length) w) := by
  have H1 := hide (fun (x : World) (h : Below w.heap.size w x) => rgrown_any false v G B x (hg.below h hB) hf (Nat.le_trans hB h.size))
  obtain ⟨AT, cT, AN, cN, AR, cR, rfl, _⟩ := hg
  have HS0 := hide (One.start w #[.slice AT G.ts.length cT, .slice AN G.ns.length cN, .slice AR G.rs.length cR, .int .i64 G.st])
  clear hf
  generalize Gm.gn false G.rs G.ns.length = T at *
  generalize Gm.right G = q at *
  cases q
  · go_enter Tryz.func16, Tryz.ntmps16
    go_wp2_with fail
    refine (H1.out _ HS0.out.below).mono ?_; intro e w2 h
    obtain ⟨rfl, hb⟩ := h.2 rfl
    have HB2 := hide (HS0.out.on hb)
    clear hb h
    go_wp2
    go_ret
    exact ⟨fun h => by simp at h, fun _ => ⟨rfl, HB2.out.below⟩⟩
  · go_enter Tryz.func16, Tryz.ntmps16
    go_wp2_with fail
    refine (H1.out _ HS0.out.below).mono ?_; intro e w2 h
    obtain ⟨g, rfl, hg, hu, hb⟩ := h.1 rfl
    have HB2 := hide (HS0.out.on hb)
    have HU := hide hu
    have HG := hide hg
    clear hb h hu hg
    go_wp2
    go_ret
    exact ⟨fun _ => ⟨g, rfl, by have := HG.out; simp at this; omega, HU.out, HB2.out.below⟩, fun h => by simp at h⟩
end Go.Proofs.YthjohhcgegcmhaaGreat

namespace Go.Proofs.YthjohhcgegcmhaaGreat
set_option maxRecDepth 100000
open Go.RowKit

set_option maxHeartbeats 4000000 in
theorem rof12_any (l : List Int) (rest : Nat) (nu : List Bool) (fs : List Nat) (A A1 A2 : Option Addr) (c c1 c2 B B1 B2 : Nat) (w : World) (hr : RdI w B A l) (h1 : RdO w B1 A1 nu) (h2 : RdZ w B2 A2 fs)
    (hin : ∀ z ∈ l, Gm.In z) (h31 : ∀ z ∈ l, z ≤ 31) (hs : ∀ z ∈ l, z < 0 → -1 - z < (fs.length : Int)) (hn : nu.length = fs.length) (hf : Gm.U32 fs) (hrest : rest < 4294967296) (hl : l.length ≤ 9223372036854775807) :
    Calls Tryz.prog 21 #[.slice A l.length c, .slice A1 nu.length c1, .slice A2 fs.length c2, .int .u32 rest] w fun e w' => e = .returned (.int .u32 (Gm.ofN nu fs rest l)) ∧ ∃ q, w' = w.drewN q := by
  have HR := hide hr
  have H1 := hide h1
  have H2 := hide h2
  have HIN := hide hin
  have H31 := hide h31
  have HS := hide hs
  have HN := hide hn
  have HF := hide hf
  have HRE := hide hrest
  have HST := hide (Gm.ofN_step nu fs rest l)
  have h0 : (l.length : Int) ≤ 9223372036854775807 := by omega
  obtain ⟨r, hr0⟩ : ∃ r, r = Gm.ofN nu fs rest l := ⟨_, rfl⟩
  have HR0 := hide hr0
  rw [← hr0]
  clear hr h1 h2 hin h31 hs hn hf hl hr0 hrest
  go_enter Tryz.func21, Tryz.ntmps21
  go_wp2
  go_loop [10, 9] (fun vi vs => ∃ (k s : Nat), k ≤ l.length ∧ vi = .int .i64 k ∧ vs = .int .u32 s ∧ Hid (s < 4294967296) ∧ Hid (r = s ||| Gm.ofN nu fs rest (l.drop k))) (fun vi _ => l.length - (intOf vi).toNat)
  case atStart => exact ⟨0, 0, Nat.zero_le _, rfl, rfl, hide (by decide), hide (by rw [HR0.out]; simp)⟩
  case round =>
    obtain ⟨k, s, hk, rfl, rfl, HL, HE⟩ := hrel
    by_cases hlt : k < l.length
    · obtain ⟨g, o, rfl, hgb, hc⟩ := HR.out (by omega)
      have k0 := hc k hlt
      rw [L.gd_lt hlt] at k0
      have hzi := HIN.out _ (List.getElem_mem hlt)
      have hz3 := H31.out _ (List.getElem_mem hlt)
      have hzs := HS.out _ (List.getElem_mem hlt)
      have HSz := hide (HE.out.trans (HST.out k hlt s))
      clear hc
      generalize l[k] = z at *
      unfold Gm.In at hzi
      by_cases hz0 : 0 ≤ z
      · have hb : Gm.bgN fs z = S.bit z := by unfold Gm.bgN S.bit; rw [if_pos hz0, if_pos (by omega)]
        have hm : Gm.mbN nu z = false := by unfold Gm.mbN; rw [decide_eq_false (by omega)]; rfl
        rw [hb, hm] at HSz
        have ho := hide (u32_or_nat s (S.bit z) HL.out (S.bit_lt z))
        have HBI := hide (fun w => rbit_any z w (by omega))
        have d0 : decide (0 ≤ z) = true := decide_eq_true hz0
        generalize S.bit z = b at *
        clear hzi hz3 hzs hz0 hb hm
        go_wp2_with fail
        refine (HBI.out _).mono ?_; rintro _ w2 ⟨rfl, q, rfl⟩
        go_wp2_with fail
        go_ret
        exact ⟨ret_int (by rw [ho.out, HSz.out]; simp), q, rfl⟩
      · have hz1 := hzs (by omega)
        obtain ⟨m, he⟩ : ∃ m : Nat, -1 - z = (m : Int) := ⟨(-1 - z).toNat, by omega⟩
        rw [he] at hz1
        have hb : Gm.bgN fs z = fs.getD m 0 := by unfold Gm.bgN; rw [if_neg hz0, he]; simp
        have hm : Gm.mbN nu z = nu.getD m false := by unfold Gm.mbN; rw [decide_eq_true (by omega), he]; simp
        rw [hb, hm] at HSz
        have hm1 : m < fs.length := by omega
        have hm2 : m < nu.length := by have := HN.out; omega
        have hm3 : (m : Int) < (nu.length : Int) := by omega
        obtain ⟨g1, o1, rfl, _, hc1⟩ := H1.out (by omega)
        obtain ⟨g2, o2, rfl, _, hc2⟩ := H2.out.addr (by omega)
        have k1 := hc1 m hm2
        have k2 := hc2 m hm1
        have ho := hide (u32_or_nat s (fs.getD m 0) HL.out (HF.out m))
        have HL2 := hide (Gm.or32 HL.out (HF.out m))
        have d0 : decide (0 ≤ z) = false := decide_eq_false hz0
        have d2 : IntKind.i64.wrap (-1 - z) = (m : Int) := by rw [IntWalk.i64_in _ (by omega)]; exact he
        generalize fs.getD m 0 = b at *
        obtain ⟨s2, hs2⟩ : ∃ s2, s2 = s ||| b := ⟨_, rfl⟩
        rw [← hs2] at ho HL2 HSz
        generalize nu.getD m false = bn at *
        clear hzi hz3 hzs hz0 hb hm hs2 hc1 hc2 he
        cases bn
        · go_wp2_with fail
          go_ret
          exact ⟨ret_int (by rw [ho.out, HSz.out]; simp), 0, rfl⟩
        · go_wp2_with fail
          go_round
          case rel => exact ⟨k + 1, s2, hlt, by go_num, by rw [ho.out], HL2, hide (by rw [HSz.out]; simp)⟩
          case measure => simp [intOf]; omega
    · obtain rfl : k = l.length := by omega
      have ho := hide (u32_or_nat s rest HL.out HRE.out)
      have HX : Hid (r = s ||| rest) := hide (by rw [HE.out, List.drop_length]; rfl)
      go_wp2_with fail
      go_ret
      exact ⟨ret_int (by rw [ho.out, HX.out]), 0, rfl⟩
theorem Gm.fold_take {f : List Nat → Gm.Rl → List Nat} {rs : List Gm.Rl} {k : Nat} (h : k < rs.length) (s : List Nat) : (rs.take (k + 1)).foldl f s = f ((rs.take k).foldl f s) rs[k] := by
  rw [List.take_succ_eq_append_getElem h, List.foldl_append]; rfl
theorem FsP.fold {G : Gm.Gr} (hf : Gm.Fit G) (hok : Gm.Ok G) : ∀ (xs : List Gm.Rl) (s : List Nat), (∀ x ∈ xs, x ∈ G.rs) → FsP G s → FsP G (xs.foldl (Gm.firstN1 (Gm.gn false G.rs G.ns.length)) s)
  | [], _, _, h => h
  | x :: xs, _, hx, h => FsP.fold hf hok xs _ (fun y hy => hx y (List.mem_cons_of_mem _ hy)) (h.step hf hok (hx x (List.mem_cons_self ..)))
theorem FsP.times {G : Gm.Gr} (hf : Gm.Fit G) (hok : Gm.Ok G) (n : Nat) : FsP G (Gm.timesN (fun s => G.rs.foldl (Gm.firstN1 (Gm.gn false G.rs G.ns.length)) s) n (List.replicate G.ns.length 0)) := by
  induction n with
  | zero => exact FsP.start G
  | succ n ih => exact ih.fold hf hok _ _ (fun _ h => h)

set_option maxHeartbeats 8000000 in
theorem rfirst12_any (v : Value) (G : Gm.Gr) (B : Nat) (w : World) (hg : RdGr w B v G) (hf : Gm.Fit G) (hB : B ≤ w.heap.size) :
    Calls Tryz.prog 10 #[v] w (RowZm (Gm.right G) (Gm.fst G) w) := by
  have H1 := hide (fun (x : World) (h : Below w.heap.size w x) => rright_any v G B x (hg.below h hB) hf (Nat.le_trans hB h.size))
  have HNU := hide (fun (q : Gm.right G = true) (x : World) (h : Below w.heap.size w x) => (show Calls _ _ _ _ (RowT _ _) from (rnullable_any v G B x (hg.below h hB) hf (Nat.le_trans hB h.size)).mono fun e w' k => k.1 q))
  obtain ⟨AT, cT, AN, cN, AR, cR, rfl, _, ⟨hlN, hmN⟩, ⟨hlR, hmR⟩, _, _, hR⟩ := hg
  have HS0 := hide (One.start w #[.slice AT G.ts.length cT, .slice AN G.ns.length cN, .slice AR G.rs.length cR, .int .i64 G.st])
  have HRl := hide hR
  have HB := hide hB
  have HFT := hide hf
  clear hf hR hB
  cases q : Gm.right G
  · rw [q] at H1
    clear q
    go_enter Tryz.func10, Tryz.ntmps10
    go_wp2_with fail
    refine (H1.out _ HS0.out.below).mono ?_; rintro _ w2 ⟨rfl, hb⟩
    have HB2 := hide (HS0.out.on hb)
    clear hb
    go_wp2
    go_ret
    exact ⟨fun h => by simp at h, fun _ => ⟨rfl, HB2.out.below⟩⟩
  · have HOK := hide (Gm.right_ok.1 q)
    have HN : Hid (G.ns.length ≤ 40) := hide (by have := (Gm.nons_iff G).1 HOK.out.n; omega)
    have HR40 : Hid (G.rs.length ≤ 40) := hide HOK.out.r40
    have HNU := hide (HNU.out q)
    rw [q] at H1
    clear q
    have hnn := HN.out
    have hlen : (G.ns.length : Int) ≤ 9223372036854775807 := by omega
    have hlen2 : (G.rs.length : Int) ≤ 9223372036854775807 := by omega
    obtain ⟨T, hT⟩ : ∃ x, x = Gm.gn false G.rs G.ns.length := ⟨_, rfl⟩
    have HTl : Hid (T.length = G.ns.length) := hide (by rw [hT, Gm.gn_len])
    have HT := hide hT
    rw [← hT] at HNU
    clear hT
    go_enter Tryz.func10, Tryz.ntmps10
    go_wp2_with fail
    refine (H1.out _ HS0.out.below).mono ?_; rintro _ w2 ⟨rfl, hb⟩
    have HB2 := hide (HS0.out.on hb)
    have q0 := HB2.out.c 0 _ rfl
    have q1 := HB2.out.c 1 _ rfl
    have q2 := HB2.out.c 2 _ rfl
    have q3 := HB2.out.c 3 _ rfl
    have hd1 : w.heap.size < w2.heap.size := HB2.out.size
    clear hb
    go_upto_region 4 with fail
    refine (HNU.out _ HB2.out.below).mono ?_; rintro _ w3 ⟨g1, rfl, hg1, hu1, hb3⟩
    have HB3 := hide (HB2.out.on hb3)
    have HU1 := hide hu1
    have HL1 := hide hu1.lt
    have q1 := HB3.out.c 1 _ rfl
    have hd3 : w.heap.size < w3.heap.size := HB3.out.size
    rw [HTl.out]
    clear hb3 q0 q2 q3 hu1 hg1 hd1 H1 HNU HS0
    go_upto_region 5 with (at_make; refine mkU_arm rfl (.tmp 15) (.tmp 15) _ rfl Tryz.underlying30 G.ns.length _ _ rfl rfl rfl rfl (by omega) ?_; intro w4 hu4 hb4 hlt4)
    have HB4 := hide (HB3.out.on hb4)
    have HU4 : Hid (UBZ w4 w3.heap.size (List.replicate G.ns.length 0)) := hide (by unfold UBZ; rw [zi_rep]; exact hu4)
    have HW4 := hide (Nat.lt_of_lt_of_le HL1.out hb4.size)
    have HU14 : Hid (UBO w4 g1 T) := hide (HU1.out.below hb4 HL1.out)
    have HG1 : Hid (g1 < w3.heap.size) := HL1
    have HGK : Hid (w.heap.size < w3.heap.size) := hide hd3
    clear hu4 hb4 hlt4 q1 hd3 HU1 HL1
    obtain ⟨f, hfd⟩ : ∃ f, f = Gm.firstN1 T := ⟨_, rfl⟩
    have HFD := hide hfd
    have HPT : Hid (∀ n, FsP G (Gm.timesN (fun s => G.rs.foldl f s) n (List.replicate G.ns.length 0))) := hide (fun n => by rw [hfd, HT.out]; exact FsP.times HFT.out HOK.out n)
    have HFST : Hid (Gm.timesN (fun s => G.rs.foldl f s) G.ns.length (List.replicate G.ns.length 0) = Gm.fst G) := hide (by rw [hfd, HT.out]; rfl)
    have HFF : Hid (∀ (xs : List Gm.Rl) (s : List Nat), (∀ x ∈ xs, x ∈ G.rs) → FsP G s → FsP G (xs.foldl f s)) := hide (fun xs s hx h => by rw [hfd, HT.out]; exact h.fold HFT.out HOK.out xs s hx)
    clear hfd
    go_wp2
    go_loopw [5] (fun vn wr => ∃ n : Nat, n ≤ G.ns.length ∧ vn = .int .i64 n ∧ Hid (UBZ wr w3.heap.size (Gm.timesN (fun s => G.rs.foldl f s) n (List.replicate G.ns.length 0))) ∧ Hid (UBO wr g1 T) ∧ Hid (One w #[.slice AT G.ts.length cT, .slice AN G.ns.length cN, .slice AR G.rs.length cR, .int .i64 G.st] wr)) (fun vn _ => G.ns.length - (intOf vn).toNat)
    case atStart => exact ⟨0, Nat.zero_le _, rfl, HU4, HU14, HB4⟩
    case round =>
      obtain ⟨n, hn, rfl, HU, HV, HW⟩ := hrel
      obtain ⟨wo, hwo⟩ : ∃ wo : World, wo = wr := ⟨_, rfl⟩
      subst hwo
      have q1 := HW.out.c 1 _ rfl
      have ld : w.heap.size < wo.heap.size := HW.out.size
      clear HU4 HB4 HU14
      by_cases hlt : n < G.ns.length
      · have HP := hide (HPT.out n)
        have HNX : Hid (Gm.timesN (fun s => G.rs.foldl f s) (n + 1) (List.replicate G.ns.length 0) = G.rs.foldl f (Gm.timesN (fun s => G.rs.foldl f s) n (List.replicate G.ns.length 0))) := hide rfl
        generalize Gm.timesN (fun s => G.rs.foldl f s) n (List.replicate G.ns.length 0) = s at *
        go_wp2
        go_loopw [6] (fun vi wr => ∃ i : Nat, i ≤ G.rs.length ∧ vi = .int .i64 i ∧ Hid (UBZ wr w3.heap.size ((G.rs.take i).foldl f s)) ∧ Hid (UBO wr g1 T) ∧ Hid (One w #[.slice AT G.ts.length cT, .slice AN G.ns.length cN, .slice AR G.rs.length cR, .int .i64 G.st] wr)) (fun vi _ => G.rs.length - (intOf vi).toNat)
        case atStart => exact ⟨0, Nat.zero_le _, rfl, HU, HV, HW⟩
        case round =>
          clear HU HV HW q1 ld
          obtain ⟨i, hi, rfl, HU, HV, HW⟩ := hrel
          have q2 := HW.out.c 2 _ rfl
          have ld : w.heap.size < wr.heap.size := HW.out.size
          by_cases hlt2 : i < G.rs.length
          · obtain ⟨g, o, rfl, hgB, hc⟩ := HRl.out (by omega)
            obtain ⟨k0, ⟨A', c', k1, hlc, _, hri⟩, k2⟩ := hc i hlt2
            have k0 := (HW.out.below.cell (p := ⟨g, o + i * 3, none⟩) (Nat.lt_of_lt_of_le hgB HB.out)).trans k0
            have k1 := (HW.out.below.cell (p := ⟨g, o + i * 3 + 1, none⟩) (Nat.lt_of_lt_of_le hgB HB.out)).trans k1
            have k2 := (HW.out.below.cell (p := ⟨g, o + i * 3 + 2, none⟩) (Nat.lt_of_lt_of_le hgB HB.out)).trans k2
            have hgs : g < wr.heap.size := by have := HB.out; omega
            have hxm : G.rs[i] ∈ G.rs := List.getElem_mem hlt2
            have HXI := hide (rlIn HFT.out HOK.out hxm)
            have HTK := hide (Gm.fold_take (f := f) hlt2 s)
            have HPC := hide (HFF.out (G.rs.take i) s (fun x hx => List.mem_of_mem_take hx) HP.out)
            have HRI := hide (hri.keep fun g o hg => HW.out.below.cell (p := ⟨g, o, none⟩) (Nat.lt_of_lt_of_le hg HB.out))
            generalize (G.rs.take i).foldl f s = cur at *
            generalize G.rs[i] = x at *
            obtain ⟨l, r, p⟩ := x
            obtain ⟨m, rfl⟩ : ∃ m : Nat, l = (m : Int) := ⟨l.toNat, by have := HXI.out.l0; simp only at this; omega⟩
            simp only at k0 k1 k2 HRI hlc
            have hmn : m < G.ns.length := by have := HXI.out.l1; simp only at this; omega
            have hmi : (m : Int) < (G.ns.length : Int) := by omega
            obtain ⟨wb, hwb⟩ : ∃ y, y = wr.alloc (.cells #[.int .i64 m, .slice A' r.length c', .int .i64 p] 46) := ⟨_, rfl⟩
            have HBX : Hid (wb.heap[wr.heap.size]? = some (.cells #[.int .i64 m, .slice A' r.length c', .int .i64 p] 46 (0, 0))) := hide (by rw [hwb]; exact heap_alloc_new wr _)
            have HUB : Hid (UBZ wb w3.heap.size cur) := hide (by rw [hwb]; exact HU.out.alloc _)
            have HVB : Hid (UBO wb g1 T) := hide (by rw [hwb]; exact HV.out.alloc _)
            have HWB : Hid (One w #[.slice AT G.ts.length cT, .slice AN G.ns.length cN, .slice (some ⟨g, o, none⟩) G.rs.length cR, .int .i64 G.st] wb) := hide (by rw [hwb]; exact HW.out.alloc _)
            have HRB : Hid (RdI wb B A' r) := hide (by rw [hwb]; exact HRI.out.alloc (by have := HB.out; omega) _)
            have HOF := rof12_any r 0 T cur A' (some ⟨g1, 0, none⟩) (some ⟨w3.heap.size, 0, none⟩) c' G.ns.length G.ns.length B wb.heap.size wb.heap.size wb.drew (HRB.out.drewN 1) ((HVB.out.drewN 1).rd0 HVB.out.lt) ((HUB.out.drewN 1).rd HUB.out.lt) HXI.out.i HXI.out.t (fun z hz h => by rw [HPC.out.1]; exact HXI.out.n z hz h) (by rw [HPC.out.1, HTl.out]) HPC.out.2.1 (by decide) (by have := HXI.out.c; simp only at this; omega)
            rw [HPC.out.1, HTl.out] at HOF
            have HVL : Hid (Gm.ofN T cur 0 r < 4294967296) := hide (Gm.U32.ofN HPC.out.2.1 (by decide) HXI.out.t)
            have HX : Hid ((G.rs.take (i + 1)).foldl f s = cur.set m (cur.getD m 0 ||| Gm.ofN T cur 0 r)) := hide (by rw [HTK.out, HFD.out]; unfold Gm.firstN1 Gm.addN; simp)
            have HOF := hide HOF
            generalize Gm.ofN T cur 0 r = vv at *
            have ho := u32_or_nat (cur.getD m 0) vv (HPC.out.2.1 m) HVL.out
            have hcm : m < cur.length := by rw [HPC.out.1]; exact hmn
            have HCM := hide hcm
            have km := HUB.out.cell m hcm
            have fm := HUB.out.frozen m
            have lu := HUB.out.lt
            have HKS := hide (fun (z : World) (hz : UBZ z w3.heap.size cur) => hz.set_ m (cur.getD m 0 ||| vv))
            generalize cur.getD m 0 ||| vv = v2 at *
            generalize hv1 : cur.getD m 0 = v1 at *
            have HV1 := hide hv1
            clear hv1
            have hd5 : wr.heap.size < wb.heap.size := (Array.getElem?_eq_some_iff.1 HBX.out).1
            have q5 := fun z : Calm.OnB wr.heap.size wb => cell_of_row z.1 _ 0 _ _ _ (z.2.trans HBX.out)
            have q6 := fun z : Calm.OnB wr.heap.size wb => cell_of_row z.1 _ 1 _ _ _ (z.2.trans HBX.out)
            have HNE : Hid (w3.heap.size ≠ wr.heap.size) := hide (by have := HU.out.lt; omega)
            clear hc hri hlc hxm hmn hcm HRI HXI HTK
            go_upto_region 12 with fail
            rw [← hwb]
            clear hwb q2 k0 k1 k2 ld
            refine CalmN.region_tree (fun x => ∃ z : Calm.OnB wr.heap.size wb, x = z.1) (.two [0, 1, 2, 3, 4, 5, 6, 8, 9, 10, 11] 7 (.one [] 12 (.one [13, 14] 15 (.fin []))) 12 (.one [] 7 (.one [13, 14] 15 (.fin [])))) (by kernel_rfl) (by kernel_rfl) (fun _ _ d _ _ h => by cases d <;> exact h) ⟨⟨wb.drew, rfl⟩, rfl⟩ ?_
            rw [CalmN.wpT]
            simp only [CalmN.pickOps, List.getElem?_toArray, List.getElem?_cons_zero, List.getElem?_cons_succ]
            repeat (go_big_quiet_step (fail))
            have hS : ∃ z : Calm.OnB wr.heap.size wb, wb.drew = z.1 := ⟨⟨wb.drew, rfl⟩, rfl⟩
            have kmd : wb.drew.cell? ⟨w3.heap.size, m, none⟩ = some (.int .u32 (v1 : Int)) := km
            have HUD : Hid (UBZ wb.drew w3.heap.size cur) := hide (HUB.out.drewN 1)
            have HVD : Hid (UBO wb.drew g1 T) := hide (HVB.out.drewN 1)
            have HWD : Hid (One w #[.slice AT G.ts.length cT, .slice AN G.ns.length cN, .slice (some ⟨g, o, none⟩) G.rs.length cR, .int .i64 G.st] wb.drew) := hide (HWB.out.drewN 1)
            have HBD : Hid (wb.drew.heap[wr.heap.size]? = wb.heap[wr.heap.size]?) := hide rfl
            generalize wb.drew = wd at *
            clear q5 q6 km fm lu
            refine wpQuiet_nil ⟨?_, ?_⟩
            case' refine_1 =>
              simp only [CalmN.wpT, CalmN.wpSt, CalmN.pickOps, List.getElem?_toArray, List.getElem?_cons_zero, List.getElem?_cons_succ]
              intro KK hKK
              rw [if_pos (by rfl)]
              go_wp2_with fail
              refine hKK _ _ hS (fun x => ∃ z : Calm.OnB wr.heap.size wb, x = z.1) (fun _ h => h) hS ?_
              clear hKK
              refine wpQuiet_nil ?_
              intro KK hKK
              rw [if_pos (by rfl)]
              go_wp2_with fail
              refine HOF.out.mono ?_; rintro _ we ⟨rfl, q, hq⟩
              have HUE : Hid (UBZ we w3.heap.size cur) := hide (by rw [hq]; exact HUD.out.drewN q)
              have HVE : Hid (UBO we g1 T) := hide (by rw [hq]; exact HVD.out.drewN q)
              have HWE : Hid (One w #[.slice AT G.ts.length cT, .slice AN G.ns.length cN, .slice (some ⟨g, o, none⟩) G.rs.length cR, .int .i64 G.st] we) := hide (by rw [hq]; exact HWD.out.drewN q)
              have hbe : we.heap[wr.heap.size]? = wb.heap[wr.heap.size]? := by rw [hq]; exact HBD.out
              have HBE := hide hbe
              have hS : ∃ z : Calm.OnB wr.heap.size wb, we = z.1 := ⟨⟨we, hbe⟩, rfl⟩
              have km := HUE.out.cell m HCM.out
              rw [HV1.out] at km
              have fm := HUE.out.frozen m
              have lu := HUE.out.lt
              clear hq hbe
              go_wp2_with fail
              refine hKK _ _ hS (fun x => ∃ z : Calm.OnB wr.heap.size wb, x = z.1) (fun _ h => h) hS ?_
              clear hKK
            case' refine_2 =>
              simp only [CalmN.wpT, CalmN.wpSt, CalmN.pickOps, List.getElem?_toArray, List.getElem?_cons_zero, List.getElem?_cons_succ]
              intro KK hKK
              rw [if_pos (by rfl)]
              go_wp2_with fail
              refine HOF.out.mono ?_; rintro _ we ⟨rfl, q, hq⟩
              have HUE : Hid (UBZ we w3.heap.size cur) := hide (by rw [hq]; exact HUD.out.drewN q)
              have HVE : Hid (UBO we g1 T) := hide (by rw [hq]; exact HVD.out.drewN q)
              have HWE : Hid (One w #[.slice AT G.ts.length cT, .slice AN G.ns.length cN, .slice (some ⟨g, o, none⟩) G.rs.length cR, .int .i64 G.st] we) := hide (by rw [hq]; exact HWD.out.drewN q)
              have hbe : we.heap[wr.heap.size]? = wb.heap[wr.heap.size]? := by rw [hq]; exact HBD.out
              have HBE := hide hbe
              have hS : ∃ z : Calm.OnB wr.heap.size wb, we = z.1 := ⟨⟨we, hbe⟩, rfl⟩
              have km := HUE.out.cell m HCM.out
              rw [HV1.out] at km
              have fm := HUE.out.frozen m
              have lu := HUE.out.lt
              clear hq hbe
              go_wp2_with fail
              refine hKK _ _ hS (fun x => ∃ z : Calm.OnB wr.heap.size wb, x = z.1) (fun _ h => h) hS ?_
              clear hKK
              refine wpQuiet_nil ?_
              intro KK hKK
              rw [if_pos (by rfl)]
              go_wp2_with fail
              refine hKK _ _ hS (fun x => ∃ z : Calm.OnB wr.heap.size wb, x = z.1) (fun _ h => h) hS ?_
              clear hKK
            all_goals
              repeat (go_big_quiet_step (fail))
              refine wpQuiet_nil ?_
              obtain ⟨wf, hwf⟩ : ∃ y, y = we.setCell ⟨w3.heap.size, m, none⟩ (.int .u32 (v2 : Int)) := ⟨_, rfl⟩
              have HUF : Hid (UBZ wf w3.heap.size ((G.rs.take (i + 1)).foldl f s)) := hide (by rw [hwf, HX.out]; exact HKS.out we HUE.out)
              have HVF : Hid (UBO wf g1 T) := hide (by rw [hwf]; exact HVE.out.far (by have := HG1.out; simp only; omega) _)
              have HWF : Hid (One w #[.slice AT G.ts.length cT, .slice AN G.ns.length cN, .slice (some ⟨g, o, none⟩) G.rs.length cR, .int .i64 G.st] wf) := hide (by rw [hwf]; exact Below.setCell (p := ⟨w3.heap.size, m, none⟩) HWE.out (by have := HGK.out; simp only; omega) _)
              have hS2 : ∃ z : Calm.OnB wr.heap.size wb, wf = z.1 := ⟨⟨wf, by rw [hwf]; exact (Below.heap_setCell we ⟨w3.heap.size, m, none⟩ _ _ (fun e => HNE.out e.symm)).trans HBE.out⟩, rfl⟩
              intro KK hKK
              rw [if_pos (by rfl)]
              go_wp2_with fail
              rw [← hwf]
              refine hKK _ _ hS2 (fun x => ∃ z : Calm.OnB wr.heap.size wb, x = z.1) (fun _ h => h) hS2 ?_
              clear hKK hwf hS2
              refine wpQuiet_nil ?_
              go_wp2
              go_roundw
              case rel => exact ⟨i + 1, hlt2, by go_num, HUF, HVF, HWF⟩
              case measure => simp [intOf]; omega
          · obtain rfl : i = G.rs.length := by omega
            rw [List.take_length] at HU
            go_wp2
            go_roundw
            case rel => exact ⟨n + 1, hlt, by go_num, by rw [HNX.out]; exact HU, HV, HW⟩
            case measure => simp [intOf]; omega
      · obtain rfl : n = G.ns.length := by omega
        rw [HFST.out] at HU
        go_wp2
        go_ret
        exact ⟨fun _ => ⟨w3.heap.size, by rw [Gm.fst_len]; rfl, Nat.le_of_lt HGK.out, HU.out, HW.out.below⟩, fun h => by simp at h⟩
end Go.Proofs.YthjohhcgegcmhaaGreat

namespace Go.Proofs.YthjohhcgegcmhaaGreat
open Go.ChangeShapes Go.WideShapes Go.Deep Go.RowKit Go.Joins

section
variable {H : Type} {enc : TypeId × Value → H} {P : Program} {w : World} {base : Nat} {spare : Nat → Bool} {held : Bool}

theorem open_rows {t e : TypeId} {fs : Array Field} {fuel : Nat} {cs : List Value} {x : DataW H × List MemPlace} (ht : P.underlying t = some (.slice e)) (he : P.underlying e = some (.struct fs))
    (hone : oneCellFields P fs = true) (hC : P.cellsOf e = fs.size) (h : DataW.trod enc P w base spare held fuel t cs = some x) :
    cs = [.slice none 0 0] ∨
    ∃ (a : Addr) (len cap : Nat), cs = [.slice (some a) len cap] ∧ len ≤ cap ∧ cap ≤ maxLen ∧
      ∀ i, i < len → ∀ (j : Nat) (f : Field), fs[j]? = some f → ∃ (v : Value) (y : DataW H × List MemPlace) (n : Nat), w.cell? (a.add (i * fs.size + j)) = some v ∧ DataW.trod enc P w base spare held n f.type [v] = some y := by
  rcases open_slice ht h with h0 | ⟨a, len, cap, m, n, D, Pl, hcs, hb, hl, hm, hmm, hx, hi⟩
  · exact .inl h0.1
  · refine .inr ⟨a, len, cap, hcs, hl, hm, fun i him j f hj => ?_⟩
    obtain ⟨cs', hc, ht'⟩ := hi i (by rw [hmm]; split <;> omega)
    rw [hC] at hc
    obtain ⟨ys, n', hn', hy, hlen, hyl, hf⟩ := DataW.trod_struct he ht'
    obtain ⟨_, hcl, hat⟩ := World.cells?_some hc
    obtain ⟨ho, hk⟩ := hone_of hone j f hj
    have hjl : j < fs.size := (Array.getElem?_eq_some_iff.1 hj).1
    have hcell := hat j hjl
    have hv : cs'[j]? = some (cs'[j]'(by omega)) := List.getElem?_eq_getElem (by omega)
    have h1 := hf j f hj
    rw [ho, hk] at h1
    have hone' : (cs'.drop j).take 1 = [cs'[j]'(by omega)] := by
      rw [List.drop_eq_getElem_cons (by omega)]
      rfl
    rw [hone'] at h1
    have hys : ys[j]? = some (ys[j]'(by omega)) := List.getElem?_eq_getElem (by omega)
    refine ⟨_, _, n', ?_, h1.trans hys⟩
    rw [← Go.Deep.add_add, hcell, hv]

theorem plain_addr {a : Addr} {k : Nat} {v : Value} (h : w.cell? (a.add k) = some v) (hk : k = 0) : a = ⟨a.block, a.off, none⟩ := by
  subst hk
  obtain ⟨b, o, s⟩ := a
  obtain rfl : s = none := by simpa [Addr.add] using World.cell?_spot h
  rfl

theorem open_tms {t e : TypeId} {f0 f1 f2 : Field} {fuel : Nat} {cs : List Value} {x : DataW H × List MemPlace} (ht : P.underlying t = some (.slice e)) (he : P.underlying e = some (.struct #[f0, f1, f2]))
    (hone : oneCellFields P #[f0, f1, f2] = true) (hC : P.cellsOf e = 3) (h0 : P.underlying f0.type = some .string) (h1 : P.underlying f1.type = some (.int .i64)) (h2 : P.underlying f2.type = some (.int .i64)) (h : DataW.trod enc P w base spare held fuel t cs = some x) :
    ∃ A n c ts, cs = [.slice A n c] ∧ n = ts.length ∧ n ≤ c ∧ c ≤ 9223372036854775807 ∧ RdTm w w.heap.size A ts ∧ ∀ x ∈ ts, K.Tx x.nm ∧ Gm.In x.lv ∧ Gm.In x.wy := by
  rcases open_rows ht he hone hC h with rfl | ⟨a, len, cap, rfl, hl, hm, hi⟩
  · exact ⟨none, 0, 0, [], rfl, rfl, Nat.le_refl _, by omega, fun h => absurd rfl h, fun x hx => by simp at hx⟩
  · have hp : ∀ i, i < len → ∃ t : Gm.Tm, (w.cell? (a.add (i * 3)) = some (.string (K.str t.nm)) ∧ w.cell? (a.add (i * 3 + 1)) = some (.int .i64 t.lv) ∧ w.cell? (a.add (i * 3 + 2)) = some (.int .i64 t.wy)) ∧ K.Tx t.nm ∧ Gm.In t.lv ∧ Gm.In t.wy := fun i hil => by
      obtain ⟨v0, y0, n0, c0, t0⟩ := hi i hil 0 f0 rfl
      obtain ⟨v1, y1, n1, c1, t1⟩ := hi i hil 1 f1 rfl
      obtain ⟨v2, y2, n2, c2, t2⟩ := hi i hil 2 f2 rfl
      obtain ⟨s, e0, _, hs0⟩ := DataW.trod_string h0 t0
      obtain ⟨z1, e1, _, w1⟩ := DataW.trod_int h1 t1
      obtain ⟨z2, e2, _, w2⟩ := DataW.trod_int h2 t2
      injection e0 with e0; injection e1 with e1; injection e2 with e2
      subst e0 e1 e2
      obtain ⟨l, hl, rfl⟩ := K.txt s hs0
      exact ⟨⟨l, z1, z2⟩, ⟨c0, c1, c2⟩, hl, bounds_i64 w1, bounds_i64 w2⟩
    obtain ⟨ts, htl, hts⟩ := list_of len _ hp
    refine ⟨some a, len, cap, ts, rfl, htl.symm, hl, by unfold maxLen at hm; omega, fun hn => ?_, fun x hx => ?_⟩
    · have ha := plain_addr (hts 0 (by omega)).1.1 (Nat.zero_mul 3)
      refine ⟨a.block, a.off, congrArg some ha, ?_, fun i hi => ?_⟩
      · have := block_lt_of_cell (hts 0 (by omega)).1.1
        simpa [Addr.add] using this
      · have := (hts i hi).1
        rw [ha, add_plain, add_plain, add_plain] at this
        exact this
    · obtain ⟨i, hi, rfl⟩ := List.getElem_of_mem hx
      exact (hts i hi).2

theorem open_rls {t e u : TypeId} {f0 f1 f2 : Field} {fuel : Nat} {cs : List Value} {x : DataW H × List MemPlace} (ht : P.underlying t = some (.slice e)) (he : P.underlying e = some (.struct #[f0, f1, f2]))
    (hone : oneCellFields P #[f0, f1, f2] = true) (hC : P.cellsOf e = 3) (h0 : P.underlying f0.type = some (.int .i64)) (h1 : P.underlying f1.type = some (.slice u)) (hu : P.underlying u = some (.int .i64)) (hcu : P.cellsOf u = 1) (h2 : P.underlying f2.type = some (.int .i64)) (h : DataW.trod enc P w base spare held fuel t cs = some x) :
    ∃ A n c rs, cs = [.slice A n c] ∧ n = rs.length ∧ n ≤ c ∧ c ≤ 9223372036854775807 ∧ RdRl w w.heap.size A rs ∧ ∀ x ∈ rs, Gm.In x.l ∧ Gm.In x.p ∧ ∀ z ∈ x.r, Gm.In z := by
  rcases open_rows ht he hone hC h with rfl | ⟨a, len, cap, rfl, hl, hm, hi⟩
  · exact ⟨none, 0, 0, [], rfl, rfl, Nat.le_refl _, by omega, fun h => absurd rfl h, fun x hx => by simp at hx⟩
  · have hp : ∀ i, i < len → ∃ t : Gm.Rl, (w.cell? (a.add (i * 3)) = some (.int .i64 t.l) ∧ (∃ A' c', w.cell? (a.add (i * 3 + 1)) = some (.slice A' t.r.length c') ∧ t.r.length ≤ c' ∧ c' ≤ 9223372036854775807 ∧ RdI w w.heap.size A' t.r) ∧ w.cell? (a.add (i * 3 + 2)) = some (.int .i64 t.p)) ∧ Gm.In t.l ∧ Gm.In t.p ∧ ∀ z ∈ t.r, Gm.In z := fun i hil => by
      obtain ⟨v0, y0, n0, c0, t0⟩ := hi i hil 0 f0 rfl
      obtain ⟨v1, y1, n1, c1, t1⟩ := hi i hil 1 f1 rfl
      obtain ⟨v2, y2, n2, c2, t2⟩ := hi i hil 2 f2 rfl
      obtain ⟨z0, e0, _, w0⟩ := DataW.trod_int h0 t0
      obtain ⟨z2, e2, _, w2⟩ := DataW.trod_int h2 t2
      injection e0 with e0; injection e2 with e2
      subst e0 e2
      rcases open_ints h1 hu hcu t1 with ⟨hcs, _⟩ | ⟨x, l, c, zs, hcs, _, hl, hm, hz, hx, hcell, hwz⟩
      · injection hcs with hcs
        subst hcs
        exact ⟨⟨z0, [], z2⟩, ⟨c0, ⟨none, 0, c1, Nat.le_refl _, by omega, RdI.nil _ _ _⟩, c2⟩, bounds_i64 w0, bounds_i64 w2, fun z hz => by simp at hz⟩
      · injection hcs with hcs
        subst hcs
        have hzl : l ≤ zs.length := by rw [hz]; split <;> omega
        refine ⟨⟨z0, zs.take l, z2⟩, ⟨c0, ⟨some x, c, ?_, ?_, by unfold maxLen at hm; omega, fun hn => ?_⟩, c2⟩, bounds_i64 w0, bounds_i64 w2, fun z hz => bounds_i64 (hwz z (List.mem_of_mem_take hz))⟩
        · have hln : (zs.take l).length = l := by rw [List.length_take]; omega
          show w.cell? (a.add (i * 3 + 1)) = some (.slice (some x) (zs.take l).length c)
          rw [hln]; exact c1
        · show (zs.take l).length ≤ c
          rw [List.length_take]; omega
        · have hl0 : 0 < zs.length := by simp at hn; omega
          have ha := plain_addr (hcell 0 hl0) rfl
          refine ⟨x.block, x.off, congrArg some ha, ?_, fun j hj => ?_⟩
          · have := block_lt_of_cell (hcell 0 hl0)
            simpa [Addr.add] using this
          · have hj' : j < l := by simp at hj; omega
            have h1 := hcell j (by omega)
            rw [ha, add_plain] at h1
            rw [h1]
            simp only [List.getD, List.getElem?_take]
            rw [if_pos hj']
    obtain ⟨ts, htl, hts⟩ := list_of len _ hp
    refine ⟨some a, len, cap, ts, rfl, htl.symm, hl, by unfold maxLen at hm; omega, fun hn => ?_, fun x hx => ?_⟩
    · have ha := plain_addr (hts 0 (by omega)).1.1 (Nat.zero_mul 3)
      refine ⟨a.block, a.off, congrArg some ha, ?_, fun i hi => ?_⟩
      · have := block_lt_of_cell (hts 0 (by omega)).1.1
        simpa [Addr.add] using this
      · have := (hts i hi).1
        rw [ha, add_plain, add_plain, add_plain] at this
        exact this
    · obtain ⟨i, hi, rfl⟩ := List.getElem_of_mem hx
      exact (hts i hi).2

theorem open_txs {t e : TypeId} {fuel : Nat} {cs : List Value} {x : DataW H × List MemPlace} (ht : P.underlying t = some (.slice e)) (he : P.underlying e = some .string) (hC : P.cellsOf e = 1) (h : DataW.trod enc P w base spare held fuel t cs = some x) :
    ∃ A n c ns, cs = [.slice A n c] ∧ n = ns.length ∧ n ≤ c ∧ c ≤ 9223372036854775807 ∧ RdN w w.heap.size A ns ∧ ∀ x ∈ ns, K.Tx x := by
  rcases open_strings ht he hC h with ⟨hcs, _⟩ | ⟨x, l, c, ss, hcs, _, hl, hm, hz, _, hcell, hsz⟩
  · exact ⟨none, 0, 0, [], hcs, rfl, Nat.le_refl _, by omega, fun h => absurd rfl h, fun x hx => by simp at hx⟩
  · have hzl : l ≤ ss.length := by rw [hz]; split <;> omega
    have hp : ∀ i, i < l → ∃ t : List Int, w.cell? (x.add i) = some (.string (K.str t)) ∧ K.Tx t := fun i hi => by
      obtain ⟨t, ht, he⟩ := K.txt (ss.getD i ByteArray.empty) (hsz _ (by rw [List.getD_eq_getElem?_getD, List.getElem?_eq_getElem (by omega)]; exact List.getElem_mem _))
      exact ⟨t, by rw [hcell i (by omega), he], ht⟩
    obtain ⟨ns, hnl, hns⟩ := list_of l _ hp
    refine ⟨some x, l, c, ns, hcs, hnl.symm, hl, by unfold maxLen at hm; omega, fun hn => ?_, fun y hy => ?_⟩
    · have ha := plain_addr (hns 0 (by omega)).1 rfl
      refine ⟨x.block, x.off, congrArg some ha, ?_, fun j hj => ?_⟩
      · have := block_lt_of_cell (hns 0 (by omega)).1
        simpa [Addr.add] using this
      · have h1 := (hns j hj).1
        rw [ha, add_plain] at h1
        exact h1
    · obtain ⟨i, hi, rfl⟩ := List.getElem_of_mem hy
      exact (hns i hi).2

theorem open_gram {r : Reach} {b0 : Nat} {t e1 e2 e3 u : TypeId} {f0 f1 f2 f3 x0 x1 x2 y0 y1 y2 : Field} {v : Value} {d : DataW H} {p : List MemPlace} (hs : P.underlying t = some (.struct #[f0, f1, f2, f3])) (hone : oneCellFields P #[f0, f1, f2, f3] = true) (hC : P.cellsOf t = 4)
    (hf0 : P.underlying f0.type = some (.slice e1)) (he1 : P.underlying e1 = some (.struct #[x0, x1, x2])) (ho1 : oneCellFields P #[x0, x1, x2] = true) (hc1 : P.cellsOf e1 = 3) (hx0 : P.underlying x0.type = some .string) (hx1 : P.underlying x1.type = some (.int .i64)) (hx2 : P.underlying x2.type = some (.int .i64))
    (hf1 : P.underlying f1.type = some (.slice e2)) (he2 : P.underlying e2 = some .string) (hc2 : P.cellsOf e2 = 1)
    (hf2 : P.underlying f2.type = some (.slice e3)) (he3 : P.underlying e3 = some (.struct #[y0, y1, y2])) (ho3 : oneCellFields P #[y0, y1, y2] = true) (hc3 : P.cellsOf e3 = 3) (hy0 : P.underlying y0.type = some (.int .i64)) (hy1 : P.underlying y1.type = some (.slice u)) (hu : P.underlying u = some (.int .i64)) (hcu : P.cellsOf u = 1) (hy2 : P.underlying y2.type = some (.int .i64))
    (hf3 : P.underlying f3.type = some (.int .i64))
    (hv : Value.okWide P w r b0 t v) (h : DataW.Trod enc P w base spare held t v d p) :
    ∃ G, RdGr w w.heap.size v G ∧ Gm.Fit G := by
  obtain ⟨v0, v1, v2, v3, y0', y1', y2', y3', n, rfl, _, _, k0, k1, k2, k3⟩ := open_agg4 hs hone hC hv h
  obtain ⟨AT, nT, cT, ts, e0, hn0, l0, m0, r0, w0⟩ := open_tms hf0 he1 ho1 hc1 hx0 hx1 hx2 k0
  obtain ⟨AR, nR, cR, rs, e2', hn2, l2, m2, r2, w2⟩ := open_rls hf2 he3 ho3 hc3 hy0 hy1 hu hcu hy2 k2
  obtain ⟨z, e3', _, w3⟩ := DataW.trod_int hf3 k3
  obtain ⟨AN, nN, cN, ns, e1', hn1, l1, m1, r1, w1⟩ := open_txs hf1 he2 hc2 k1
  injection e0 with e0; injection e1' with e1'; injection e2' with e2'; injection e3' with e3'
  subst e0 e1' e2' e3' hn0 hn1 hn2
  exact ⟨⟨ts, ns, rs, z⟩, ⟨AT, cT, AN, cN, AR, cR, rfl, ⟨l0, m0⟩, ⟨l1, m1⟩, ⟨l2, m2⟩, r0, r1, r2⟩, ⟨w0, w1, w2, bounds_i64 w3⟩⟩
end
end Go.Proofs.YthjohhcgegcmhaaGreat

namespace Go.Proofs.YthjohhcgegcmhaaGreat.RowKit
open Go.ChangeShapes Go.WideShapes Go.ChangeAt Go.RowKit

theorem own : ownKnob Tryz.prog.godebug = none := by kernel_rfl
theorem laidOut : laidOutB Tryz.prog = true := by kernel_rfl
end Go.Proofs.YthjohhcgegcmhaaGreat.RowKit
