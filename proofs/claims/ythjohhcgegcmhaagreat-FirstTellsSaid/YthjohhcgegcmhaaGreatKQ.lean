/- Part of the proofs over this program: FstRef3, WalkTells12. -/
import Derived.Test.YthjohhcgegcmhaaGreatKK
namespace Go.Proofs.YthjohhcgegcmhaaGreat
set_option maxRecDepth 100000
open Go.RowKit

theorem FwP.fold {G : Gm.Gr} (hf : Gm.Fit G) (hok : Gm.Ok G) : ∀ (xs : List Gm.Rl) (s : List Nat), (∀ x ∈ xs, x ∈ G.rs) → FwP G s → FwP G (xs.foldl (Gm.fwNX (Gm.gn false G.rs G.ns.length) (Gm.fst G)) s)
  | [], _, _, h => h
  | x :: xs, s, hx, h => FwP.fold hf hok xs _ (fun y hy => hx y (List.mem_cons_of_mem _ hy)) (FwP.step hf hok (hx x (List.mem_cons_self ..)) _ s (fun _ h => h) h)
theorem FwP.times {G : Gm.Gr} (hf : Gm.Fit G) (hok : Gm.Ok G) (n : Nat) : FwP G (Gm.timesN (fun s => G.rs.foldl (Gm.fwNX (Gm.gn false G.rs G.ns.length) (Gm.fst G)) s) n (Gm.flw0 G)) := by
  induction n with
  | zero => exact FwP.start hok
  | succ n ih => exact ih.fold hf hok _ _ (fun _ h => h)

structure R12 (w wr : World) (g1 g5 : Nat) (a : Array Value) (T : List Bool) (F : List Nat) : Prop where
  t : UBO wr g1 T
  f : UBZ wr g5 F
  o : One w a wr
theorem R12.alloc {w wr : World} {g1 g5 : Nat} {a : Array Value} {T : List Bool} {F : List Nat} (h : R12 w wr g1 g5 a T F) (x : Obj) : R12 w (wr.alloc x) g1 g5 a T F := ⟨h.t.alloc x, h.f.alloc x, h.o.alloc x⟩
theorem R12.drewN {w wr : World} {g1 g5 : Nat} {a : Array Value} {T : List Bool} {F : List Nat} (h : R12 w wr g1 g5 a T F) (n : Nat) : R12 w (wr.drewN n) g1 g5 a T F := ⟨h.t, h.f, h.o.drewN n⟩
theorem R12.put {w wr : World} {g1 g5 gk : Nat} {a : Array Value} {T : List Bool} {F : List Nat} (h : R12 w wr g1 g5 a T F) (h1 : g1 ≠ gk) (h5 : g5 ≠ gk) (hw : w.heap.size + 1 ≤ gk) (m : Nat) (u : Value) : R12 w (wr.setCell ⟨gk, m, none⟩ u) g1 g5 a T F := ⟨h.t.far h1 u, h.f.far h5 u, Below.setCell (p := ⟨gk, m, none⟩) h.o hw u⟩

set_option maxHeartbeats 16000000 in
theorem rfollow12_any (v : Value) (G : Gm.Gr) (B : Nat) (w : World) (hg : RdGr w B v G) (hf : Gm.Fit G) (hB : B ≤ w.heap.size) :
    Calls Tryz.prog 12 #[v] w (RowZm (Gm.right G) (Gm.flw G) w) := by
  have H1 := hide (fun (x : World) (h : Below w.heap.size w x) => rright_any v G B x (hg.below h hB) hf (Nat.le_trans hB h.size))
  have HNU := hide (fun (q : Gm.right G = true) (x : World) (h : Below w.heap.size w x) => (show Calls _ _ _ _ (RowT _ _) from (rnullable_any v G B x (hg.below h hB) hf (Nat.le_trans hB h.size)).mono fun e w' k => k.1 q))
  have HFI := hide (fun (q : Gm.right G = true) (x : World) (h : Below w.heap.size w x) => (show Calls _ _ _ _ (RowZn _ _) from (rfirst12_any v G B x (hg.below h hB) hf (Nat.le_trans hB h.size)).mono fun e w' k => k.1 q))
  obtain ⟨AT, cT, AN, cN, AR, cR, rfl, _, ⟨hlN, hmN⟩, ⟨hlR, hmR⟩, _, _, hR⟩ := hg
  obtain ⟨ga, hga⟩ : ∃ ga : Array Value, ga = #[.slice AT G.ts.length cT, .slice AN G.ns.length cN, .slice AR G.rs.length cR, .int .i64 G.st] := ⟨_, rfl⟩
  have HS0 := hide (One.start w #[.slice AT G.ts.length cT, .slice AN G.ns.length cN, .slice AR G.rs.length cR, .int .i64 G.st])
  have HRl := hide hR
  have HB := hide hB
  have HFT := hide hf
  clear hf hR hB
  cases q : Gm.right G
  · rw [q] at H1
    clear q
    go_enter Tryz.func12, Tryz.ntmps12
    go_wp2_with fail
    refine (H1.out _ HS0.out.below).mono ?_; rintro _ w2 ⟨rfl, hb⟩
    have HB2 := hide (HS0.out.on hb)
    clear hb
    go_wp2
    go_ret
    exact ⟨fun h => by simp at h, fun _ => ⟨rfl, HB2.out.below⟩⟩
  · have HOK := hide (Gm.right_ok.1 q)
    have HN : Hid (G.ns.length ≤ 40) := hide (by have := (Gm.nons_iff G).1 HOK.out.n; omega)
    have HT24 := hide ((Gm.terms_iff G.ts).1 HOK.out.t).1
    have HNU := hide (HNU.out q)
    have HFI := hide (HFI.out q)
    rw [q] at H1
    clear q
    have hnn := HN.out
    have hlen : (G.ns.length : Int) ≤ 9223372036854775807 := by omega
    have hlen2 : (G.rs.length : Int) ≤ 9223372036854775807 := by omega
    unfold RowT at HNU
    unfold RowZn at HFI
    rw [Gm.gn_len] at HNU
    rw [Gm.fst_len] at HFI
    obtain ⟨T, hT⟩ : ∃ x, x = Gm.gn false G.rs G.ns.length := ⟨_, rfl⟩
    have HTl : Hid (T.length = G.ns.length) := hide (by rw [hT, Gm.gn_len])
    obtain ⟨F, hF⟩ : ∃ x, x = Gm.fst G := ⟨_, rfl⟩
    have HFl : Hid (F.length = G.ns.length) := hide (by rw [hF, Gm.fst_len])
    have HFu : Hid (Gm.U32 F) := hide (by rw [hF]; exact Gm.fst_u32 HOK.out)
    obtain ⟨f, hfd⟩ : ∃ f, f = Gm.fwNX T F := ⟨_, rfl⟩
    have HFD := hide hfd
    have HPT : Hid (∀ n, FwP G (Gm.timesN (fun s => G.rs.foldl f s) n (Gm.flw0 G))) := hide (fun n => by rw [hfd, hT, hF]; exact FwP.times HFT.out HOK.out n)
    have HFST : Hid (Gm.timesN (fun s => G.rs.foldl f s) G.ns.length (Gm.flw0 G) = Gm.flw G) := hide (by rw [hfd, hT, hF]; rfl)
    have HFF : Hid (∀ (xs : List Gm.Rl) (s : List Nat), (∀ x ∈ xs, x ∈ G.rs) → FwP G s → FwP G (xs.foldl f s)) := hide (fun xs s hx h => by rw [hfd, hT, hF]; exact h.fold HFT.out HOK.out xs s hx)
    have HFS : Hid (∀ (x : Gm.Rl) (ys : List (Int × List Int)) (s : List Nat), x ∈ G.rs → (∀ y ∈ ys, y ∈ Gm.sufs x.r) → FwP G s → FwP G (ys.foldl (Gm.fwN1 T F x.l) s)) := hide (fun x ys s hx hy h => by rw [hT, hF]; exact FwP.step HFT.out HOK.out hx ys s hy h)
    rw [← hT] at HNU
    rw [← hF] at HFI
    clear hT hF hfd
    go_enter Tryz.func12, Tryz.ntmps12
    go_upto_region 3 with fail
    refine (H1.out _ HS0.out.below).mono ?_; rintro _ w2 ⟨rfl, hb⟩
    have HB2 := hide (HS0.out.on hb)
    clear hb
    go_upto_region 3 with fail
    have hd1 : w.heap.size < w2.heap.size := HB2.out.size
    have q0 := fun y : Calm.On w2.heap.size w2 => (y.2.cell (p := ⟨w.heap.size, 0, none⟩) hd1).trans (HB2.out.c 0 _ rfl)
    have q1 := fun y : Calm.On w2.heap.size w2 => (y.2.cell (p := ⟨w.heap.size, 1, none⟩) hd1).trans (HB2.out.c 1 _ rfl)
    have q2 := fun y : Calm.On w2.heap.size w2 => (y.2.cell (p := ⟨w.heap.size, 2, none⟩) hd1).trans (HB2.out.c 2 _ rfl)
    have q3 := fun y : Calm.On w2.heap.size w2 => (y.2.cell (p := ⟨w.heap.size, 3, none⟩) hd1).trans (HB2.out.c 3 _ rfl)
    have HSB : Hid (∀ z, Below w2.heap.size w2 z → ∃ q : Calm.On w2.heap.size w2, z = q.1) := hide (fun z hz => ⟨⟨z, hz⟩, rfl⟩)
    have HD : Hid (Below w2.heap.size w2 w2.drew) := hide (below_drewN (Below.refl _ _) 1)
    refine CalmN.region_tree (fun x => ∃ y : Calm.On w2.heap.size w2, x = y.1) (.one [0, 2] 1 (.one [] 3 (.fin [4, 5]))) (by kernel_rfl) (by kernel_rfl) (fun _ _ d _ _ h => by cases d <;> exact h) ⟨⟨w2.drew, HD.out⟩, rfl⟩ ?_
    simp only [CalmN.wpT, CalmN.wpSt, CalmN.pickOps, List.getElem?_toArray, List.getElem?_cons_zero, List.getElem?_cons_succ]
    repeat (go_big_quiet_step (fail))
    refine wpQuiet_nil ?_
    generalize w2.drew = wd at *
    clear q0 q1 q2 q3 H1 HS0
    intro KK hKK
    rw [if_pos (by rfl)]
    go_wp2_with fail
    refine (HNU.out wd (HB2.out.on HD.out).below).mono ?_; rintro _ w3 ⟨g1, rfl, hg1, hu1, hb⟩
    have HB3 := hide (HD.out.trans (hb.mono HD.out.size))
    have HU1 := hide hu1
    have HG1 := hide (Nat.le_trans HD.out.size hg1)
    clear hb hu1 hg1
    go_wp2_with fail
    refine hKK _ _ (HSB.out _ HB3.out) (fun x => ∃ y : Calm.On w2.heap.size w2, x = y.1) (fun _ h => h) (HSB.out _ HB3.out) ?_
    clear hKK
    refine wpQuiet_nil ?_
    intro KK hKK
    rw [if_pos (by rfl)]
    go_wp2_with fail
    refine (HFI.out w3 (HB2.out.on HB3.out).below).mono ?_; rintro _ w4 ⟨g5, rfl, hg5, hu5, hb⟩
    have HB4 := hide (HB3.out.trans (hb.mono HB3.out.size))
    have HR4 : Hid (R12 w w4 g1 g5 #[.slice AT G.ts.length cT, .slice AN G.ns.length cN, .slice AR G.rs.length cR, .int .i64 G.st] T F) := hide ⟨HU1.out.below hb HU1.out.lt, hu5, HB2.out.on HB4.out⟩
    clear hb hu5 hg5 HNU HFI
    go_wp2_with fail
    refine hKK _ _ (HSB.out _ HB4.out) (fun x => ∃ y : Calm.On w2.heap.size w2, x = y.1) (fun _ h => h) (HSB.out _ HB4.out) ?_
    clear hKK
    repeat (go_big_quiet_step (fail))
    refine wpQuiet_nil ?_
    have q1 := HR4.out.o.c 1 _ rfl
    have hd4 : w.heap.size < w4.heap.size := HR4.out.o.size
    clear HB2 HB3 HB4 HU1 HG1 HSB HD hd1
    go_upto_region 5 with (at_make; refine mkU_arm rfl (.tmp 20) (.tmp 20) _ rfl Tryz.underlying30 G.ns.length _ _ rfl rfl rfl rfl (by omega) ?_; intro w5 hu hb hlt5)
    have HGK := hide (And.intro HR4.out.t.lt (And.intro HR4.out.f.lt (show w.heap.size + 1 ≤ w4.heap.size from HR4.out.o.size)))
    have HR5 : Hid (R12 w w5 g1 g5 #[.slice AT G.ts.length cT, .slice AN G.ns.length cN, .slice AR G.rs.length cR, .int .i64 G.st] T F) := hide ⟨HR4.out.t.below hb HR4.out.t.lt, HR4.out.f.below hb HR4.out.f.lt, HR4.out.o.on hb⟩
    have HU5 : Hid (UBZ w5 w4.heap.size (List.replicate G.ns.length 0)) := hide (by unfold UBZ; rw [zi_rep]; exact hu)
    clear hu hb HR4 hd4 q1
    generalize w4.heap.size = gk at *
    have hgx := (Below.block HR5.out.o w.heap.size (by omega)).trans (heap_alloc_new w _)
    have hst := HOK.out.s0
    have hst1 := HOK.out.s1
    obtain ⟨ms, hm⟩ : ∃ m : Nat, G.st = (m : Int) := ⟨G.st.toNat, by omega⟩
    have HM := hide hm
    have HSR : Hid (∀ z, z.heap[w.heap.size]? = w5.heap[w.heap.size]? → ∃ q : Calm.OnB w.heap.size w5, z = q.1) := hide (fun z hz => ⟨⟨z, hz⟩, rfl⟩)
    have q0 := fun z : Calm.OnB w.heap.size w5 => cell_of_row z.1 _ 0 _ _ _ (z.2.trans hgx)
    have q3 := fun z : Calm.OnB w.heap.size w5 => cell_of_row z.1 _ 3 _ _ _ (z.2.trans hgx)
    have hme : (2 : Nat) ^ G.ts.length = S.bit (G.ts.length : Int) := (S.bit_nat (by have := HT24.out; omega)).symm
    have HFL0 : Hid ((List.replicate G.ns.length 0).set ms (S.bit (G.ts.length : Int)) = Gm.flw0 G) := hide (by unfold Gm.flw0; rw [HM.out, hme]; simp)
    have HBI := hide (fun w => rbit_any (G.ts.length : Int) w (by have := HT24.out; omega))
    generalize S.bit (G.ts.length : Int) = vb at *
    have hms : ms < G.ns.length := by omega
    have hms2 : (ms : Int) < (G.ns.length : Int) := by omega
    have HMS := hide hms
    rw [hm] at q3
    clear hst hst1 hgx hme hm hms
    have hlt1 : w.heap.size < w5.heap.size := HR5.out.o.size
    go_upto_region 5 with fail
    refine CalmN.region_tree (fun x => ∃ z : Calm.OnB w.heap.size w5, x = z.1) (.one [0, 1, 2, 3, 4, 5] 6 (.one [7] 8 (.fin []))) (by kernel_rfl) (by kernel_rfl) (fun _ _ d _ _ h => by cases d <;> exact h) ⟨⟨w5.drew, rfl⟩, rfl⟩ ?_
    simp only [CalmN.wpT, CalmN.wpSt, CalmN.pickOps, List.getElem?_toArray, List.getElem?_cons_zero, List.getElem?_cons_succ]
    repeat (go_big_quiet_step (fail))
    refine wpQuiet_nil ?_
    have HRD := hide (HR5.out.drewN 1)
    have HUD := hide (HU5.out.drewN 1)
    have HED : Hid (w5.drew.heap[w.heap.size]? = w5.heap[w.heap.size]?) := hide rfl
    rw [show w5.drewN 1 = w5.drew from rfl] at HRD HUD
    generalize w5.drew = wd at *
    clear q0 q3 HR5 HU5
    intro KK hKK
    rw [if_pos (by rfl)]
    go_wp2_with fail
    refine (HBI.out wd).mono ?_; rintro _ we ⟨rfl, q, hq⟩
    have HRE : Hid (R12 w we g1 g5 #[.slice AT G.ts.length cT, .slice AN G.ns.length cN, .slice AR G.rs.length cR, .int .i64 G.st] T F) := hide (by rw [hq]; exact HRD.out.drewN q)
    have HUE : Hid (UBZ we gk (List.replicate G.ns.length 0)) := hide (by rw [hq]; exact HUD.out.drewN q)
    have HEE : Hid (we.heap[w.heap.size]? = w5.heap[w.heap.size]?) := hide (by rw [hq]; exact HED.out)
    clear hq HBI HRD HUD
    go_wp2_with fail
    refine hKK _ _ (HSR.out _ HEE.out) (fun x => ∃ z : Calm.OnB w.heap.size w5, x = z.1) (fun _ h => h) (HSR.out _ HEE.out) ?_
    clear hKK
    repeat (go_big_quiet_step (fail))
    refine wpQuiet_nil ?_
    have u5 := HUE.out.cell ms (by rw [List.length_replicate]; exact HMS.out)
    have f5 := HUE.out.frozen ms
    have l5 := HUE.out.lt
    obtain ⟨wf, hwf⟩ : ∃ y, y = we.setCell ⟨gk, ms, none⟩ (.int .u32 (vb : Int)) := ⟨_, rfl⟩
    have HRF : Hid (R12 w wf g1 g5 #[.slice AT G.ts.length cT, .slice AN G.ns.length cN, .slice AR G.rs.length cR, .int .i64 G.st] T F) := hide (by rw [hwf]; exact HRE.out.put (by have := HGK.out; omega) (by have := HGK.out; omega) HGK.out.2.2 _ _)
    have HUF : Hid (UBZ wf gk (Gm.flw0 G)) := hide (by rw [hwf, ← HFL0.out]; exact HUE.out.set_ ms vb)
    have HEF : Hid (wf.heap[w.heap.size]? = w5.heap[w.heap.size]?) := hide (by rw [hwf]; exact (Below.heap_setCell _ _ _ _ (by have := HGK.out; simp only; omega)).trans HEE.out)
    intro KK hKK
    rw [if_pos (by rfl)]
    go_wp2_with fail
    rw [← hwf]
    refine hKK _ _ (HSR.out _ HEF.out) (fun x => ∃ z : Calm.OnB w.heap.size w5, x = z.1) (fun _ h => h) (HSR.out _ HEF.out) ?_
    clear hKK u5 f5 l5 hwf HRE HUE HEE HEF HSR HED hms2 HMS HM HFL0 hlt1
    refine wpQuiet_nil ?_
    go_wp2
    go_loopw [6] (fun vn wr => ∃ n : Nat, n ≤ G.ns.length ∧ vn = .int .i64 n ∧ Hid (UBZ wr gk (Gm.timesN (fun s => G.rs.foldl f s) n (Gm.flw0 G))) ∧ Hid (R12 w wr g1 g5 #[.slice AT G.ts.length cT, .slice AN G.ns.length cN, .slice AR G.rs.length cR, .int .i64 G.st] T F)) (fun vn _ => G.ns.length - (intOf vn).toNat)
    case atStart => exact ⟨0, Nat.zero_le _, rfl, HUF, HRF⟩
    case round =>
      obtain ⟨n, hn, rfl, HU, HW⟩ := hrel
      obtain ⟨wo, hwo⟩ : ∃ wo : World, wo = wr := ⟨_, rfl⟩
      subst hwo
      have q1 := HW.out.o.c 1 _ rfl
      have ld : w.heap.size < wo.heap.size := HW.out.o.size
      clear HUF HRF
      by_cases hlt : n < G.ns.length
      · have HP := hide (HPT.out n)
        have HNX : Hid (Gm.timesN (fun s => G.rs.foldl f s) (n + 1) (Gm.flw0 G) = G.rs.foldl f (Gm.timesN (fun s => G.rs.foldl f s) n (Gm.flw0 G))) := hide rfl
        generalize Gm.timesN (fun s => G.rs.foldl f s) n (Gm.flw0 G) = s at *
        go_wp2
        go_loopw [7] (fun vi wr => ∃ i : Nat, i ≤ G.rs.length ∧ vi = .int .i64 i ∧ Hid (UBZ wr gk ((G.rs.take i).foldl f s)) ∧ Hid (R12 w wr g1 g5 #[.slice AT G.ts.length cT, .slice AN G.ns.length cN, .slice AR G.rs.length cR, .int .i64 G.st] T F)) (fun vi _ => G.rs.length - (intOf vi).toNat)
        case atStart => exact ⟨0, Nat.zero_le _, rfl, HU, HW⟩
        case round =>
          clear HU HW q1 ld
          obtain ⟨i, hi, rfl, HU, HW⟩ := hrel
          obtain ⟨wi, hwi⟩ : ∃ wi : World, wi = wr := ⟨_, rfl⟩
          subst hwi
          have q2 := HW.out.o.c 2 _ rfl
          have ld : w.heap.size < wi.heap.size := HW.out.o.size
          by_cases hlt2 : i < G.rs.length
          · obtain ⟨g, o, rfl, hgB, hc⟩ := HRl.out (by omega)
            obtain ⟨k0, ⟨A', c', k1, hlc, _, hri⟩, k2⟩ := hc i hlt2
            have k0 := (HW.out.o.below.cell (p := ⟨g, o + i * 3, none⟩) (Nat.lt_of_lt_of_le hgB HB.out)).trans k0
            have k1 := (HW.out.o.below.cell (p := ⟨g, o + i * 3 + 1, none⟩) (Nat.lt_of_lt_of_le hgB HB.out)).trans k1
            have k2 := (HW.out.o.below.cell (p := ⟨g, o + i * 3 + 2, none⟩) (Nat.lt_of_lt_of_le hgB HB.out)).trans k2
            have hgs : g < wi.heap.size := by have := HB.out; omega
            have hxm : G.rs[i] ∈ G.rs := List.getElem_mem hlt2
            have HXI := hide (rlIn HFT.out HOK.out hxm)
            have HTK := hide (Gm.fold_take (f := f) hlt2 s)
            have HPC := hide (HFF.out (G.rs.take i) s (fun x hx => List.mem_of_mem_take hx) HP.out)
            have HPS := hide (fun (ys : List (Int × List Int)) (t : List Nat) => HFS.out G.rs[i] ys t hxm)
            have HRI : Hid (∀ (z : World) (a : Array Value), One w a z → RdI z B A' G.rs[i].r) := hide (fun z a hz => hri.keep fun g o hg => hz.below.cell (p := ⟨g, o, none⟩) (Nat.lt_of_lt_of_le hg HB.out))
            generalize (G.rs.take i).foldl f s = cur at *
            generalize G.rs[i] = x at *
            obtain ⟨l, r, p⟩ := x
            obtain ⟨m, rfl⟩ : ∃ m : Nat, l = (m : Int) := ⟨l.toNat, by have := HXI.out.l0; simp only at this; omega⟩
            simp only at k0 k1 k2 HRI hlc HPS
            have hmn : m < G.ns.length := by have := HXI.out.l1; simp only at this; omega
            have HMN := hide hmn
            have hr6 : r.length ≤ 6 := HXI.out.c
            have hrl : (r.length : Int) ≤ 9223372036854775807 := by omega
            have HR6 := hide hr6
            have HLC := hide hlc
            obtain ⟨h, hhd⟩ : ∃ h, h = Gm.fwN1 T F (m : Int) := ⟨_, rfl⟩
            have HFX : Hid ((G.rs.take (i + 1)).foldl f s = (Gm.sufs r).foldl h cur) := hide (by rw [HTK.out, HFD.out, hhd]; rfl)
            have HST : Hid (∀ (k : Nat) (hk : k < r.length), ((Gm.sufs r).take (k + 1)).foldl h cur = h (((Gm.sufs r).take k).foldl h cur) (r[k], r.drop (k + 1))) := hide (fun k hk => Gm.sufs_take hk h cur)
            have HFY : Hid (∀ (t : List Nat) (z : Int) (q : List Int), h t (z, q) = if z < 0 then Gm.addN t (-1 - z).toNat (Gm.ofN T F (t.getD m 0) q) else t) := hide (fun t z q => by rw [hhd]; unfold Gm.fwN1; simp)
            have HPK : Hid (∀ k, FwP G (((Gm.sufs r).take k).foldl h cur)) := hide (fun k => by rw [hhd]; exact HPS.out _ cur (fun y hy => List.mem_of_mem_take hy) HPC.out)
            obtain ⟨wb, hwb⟩ : ∃ y, y = wi.alloc (.cells #[.int .i64 m, .slice A' r.length c', .int .i64 p] 46) := ⟨_, rfl⟩
            have HBX : Hid (wb.heap[wi.heap.size]? = some (.cells #[.int .i64 m, .slice A' r.length c', .int .i64 p] 46 (0, 0))) := hide (by rw [hwb]; exact heap_alloc_new wi _)
            have HUB : Hid (UBZ wb gk cur) := hide (by rw [hwb]; exact HU.out.alloc _)
            have HWB : Hid (R12 w wb g1 g5 #[.slice AT G.ts.length cT, .slice AN G.ns.length cN, .slice (some ⟨g, o, none⟩) G.rs.length cR, .int .i64 G.st] T F) := hide (by rw [hwb]; exact HW.out.alloc _)
            have HNE : Hid (gk ≠ wi.heap.size) := hide (by have := HU.out.lt; omega)
            clear hc hri hlc hxm hmn hhd HTK HPS HPC hr6
            go_upto_region 13 with fail
            rw [← hwb]
            clear hwb q2 k0 k1 k2 HU HW
            have hbw := ld
            clear ld
            generalize wi.heap.size = bx at *
            go_wp2
            go_loopw [9] (fun vk wr => ∃ k : Nat, k ≤ r.length ∧ vk = .int .i64 k ∧ Hid (UBZ wr gk (((Gm.sufs r).take k).foldl h cur)) ∧ Hid (R12 w wr g1 g5 #[.slice AT G.ts.length cT, .slice AN G.ns.length cN, .slice (some ⟨g, o, none⟩) G.rs.length cR, .int .i64 G.st] T F) ∧ Hid (wr.heap[bx]? = some (.cells #[.int .i64 m, .slice A' r.length c', .int .i64 p] 46 (0, 0)))) (fun vk _ => r.length - (intOf vk).toNat)
            case atStart => exact ⟨0, Nat.zero_le _, rfl, HUB, HWB, HBX⟩
            case round =>
              clear HUB HWB HBX
              obtain ⟨k, hk, rfl, HU, HW, HBK⟩ := hrel
              have lx := (Array.getElem?_eq_some_iff.1 HBK.out).1
              have c1 := cell_of_row wr _ 1 _ _ _ HBK.out
              by_cases hlt3 : k < r.length
              · obtain ⟨gr, orr, rfl, hgb, hc⟩ := (HRI.out wr _ HW.out.o) (by omega)
                have k0 := hc k hlt3
                rw [L.gd_lt hlt3] at k0
                have hzi := HXI.out.i _ (List.getElem_mem hlt3)
                have hzn := HXI.out.n _ (List.getElem_mem hlt3)
                have HS1 := hide (HST.out k hlt3)
                have HPt := hide (HPK.out k)
                generalize ((Gm.sufs r).take k).foldl h cur = t at *
                have HF1 := hide (HFY.out t r[k] (r.drop (k + 1)))
                clear hc
                generalize r[k] = z at *
                unfold Gm.In at hzi
                by_cases h0 : z < 0
                · have hzl := hzn h0
                  obtain ⟨m2, hm2⟩ : ∃ m2 : Nat, -1 - z = (m2 : Int) := ⟨(-1 - z).toNat, by omega⟩
                  rw [hm2] at hzl
                  have hz0 : decide (z < 0) = true := decide_eq_true h0
                  have hwz : IntKind.i64.wrap (-1 - z) = (m2 : Int) := by rw [IntWalk.i64_in _ (by omega)]; exact hm2
                  have HX : Hid (((Gm.sufs r).take (k + 1)).foldl h cur = t.set m2 (t.getD m2 0 ||| Gm.ofN T F (t.getD m 0) (r.drop (k + 1)))) := hide (by rw [HS1.out, HF1.out, if_pos h0, hm2]; simp [Gm.addN])
                  have HM2 : Hid (m2 < t.length) := hide (by rw [HPt.out.l]; omega)
                  have HM1 : Hid (m < t.length) := hide (by rw [HPt.out.l]; exact HMN.out)
                  have hmi2 : (m2 : Int) < (G.ns.length : Int) := hzl
                  have hmi1 : (m : Int) < (G.ns.length : Int) := by have := HMN.out; omega
                  obtain ⟨j, hj⟩ : ∃ j : Nat, j = k + 1 := ⟨_, rfl⟩
                  have hwj : IntKind.i64.wrap ((k : Int) + 1) = (j : Int) := by rw [IntWalk.i64_in _ (by have := HR6.out; omega)]; omega
                  have S1 := fun w => sliceI_from w (some ⟨gr, orr, none⟩) c' r.length j (by omega)
                  have HUD := hide (HU.out.drewN 1)
                  have HRD := hide (HW.out.drewN 1)
                  rw [show wr.drewN 1 = wr.drew from rfl] at HUD HRD
                  have HED : Hid (wr.drew.heap[bx]? = wr.heap[bx]?) := hide rfl
                  have HOF := rof12_any (r.drop j) (t.getD m 0) T F (dropA (some ⟨gr, orr, none⟩) c' j) (some ⟨g1, 0, none⟩) (some ⟨g5, 0, none⟩) (c' - j) G.ns.length G.ns.length B wr.drew.heap.size wr.drew.heap.size wr.drew ((HRI.out wr.drew _ HRD.out.o).dropA HLC.out j) (HRD.out.t.rd0 HRD.out.t.lt) (HRD.out.f.rd HRD.out.f.lt) (fun z hz => HXI.out.i z (List.mem_of_mem_drop hz)) (fun z hz => HXI.out.t z (List.mem_of_mem_drop hz)) (fun z hz h => by rw [HFl.out]; exact HXI.out.n z (List.mem_of_mem_drop hz) h) (by rw [HTl.out, HFl.out]) HFu.out (HPt.out.u _) (by rw [List.length_drop]; have := HR6.out; omega)
                  rw [HTl.out, HFl.out, List.length_drop] at HOF
                  have hvl : Gm.ofN T F (t.getD m 0) (r.drop j) < 4294967296 := Gm.U32.ofN HFu.out (HPt.out.u _) fun z hz => HXI.out.t z (List.mem_of_mem_drop hz)
                  rw [← hj] at HX
                  have HX : Hid (((Gm.sufs r).take (k + 1)).foldl h cur = t.set m2 (t.getD m2 0 ||| Gm.ofN T F (t.getD m 0) (r.drop j))) := hide (by rw [← HX.out, hj])
                  have HOF := hide HOF
                  generalize Gm.ofN T F (t.getD m 0) (r.drop j) = vv at *
                  have ho := u32_or_nat (t.getD m2 0) vv (HPt.out.u m2) hvl
                  have HJ := hide hj
                  generalize t.getD m2 0 ||| vv = v3 at *
                  generalize hv2 : t.getD m2 0 = tm2 at *
                  generalize hv1 : t.getD m 0 = tm1 at *
                  have HV2 := hide hv2
                  have HV1 := hide hv1
                  generalize dropA (some ⟨gr, orr, none⟩) c' j = D at *
                  generalize r.length - j = nd at *
                  generalize c' - j = cd at *
                  have d2 : wr.drew.cell? ⟨gk, m2, none⟩ = some (.int .u32 (tm2 : Int)) := by rw [HUD.out.cell m2 HM2.out, hv2]
                  have d1 : wr.drew.cell? ⟨gk, m, none⟩ = some (.int .u32 (tm1 : Int)) := by rw [HUD.out.cell m HM1.out, hv1]
                  have q0 := fun z : Calm.OnB bx wr => cell_of_row z.1 _ 0 _ _ _ (z.2.trans HBK.out)
                  have q1 := fun z : Calm.OnB bx wr => cell_of_row z.1 _ 1 _ _ _ (z.2.trans HBK.out)
                  have hS : ∃ z : Calm.OnB bx wr, wr.drew = z.1 := ⟨⟨wr.drew, HED.out⟩, rfl⟩
                  clear hzi hzn hzl h0 hm2 hj HS1 HF1 hv1 hv2 hvl
                  go_upto_region 18 with fail
                  refine CalmN.region_tree (fun x => ∃ z : Calm.OnB bx wr, x = z.1) (.two [0, 1, 2, 3, 4, 6, 7, 8, 9, 10, 11, 12, 13, 14, 15, 16] 5 (.one [] 17 (.one [] 18 (.one [19, 20] 21 (.fin [])))) 17 (.two [] 5 (.one [] 18 (.one [19, 20] 21 (.fin []))) 18 (.one [] 5 (.one [19, 20] 21 (.fin []))))) (by kernel_rfl) (by kernel_rfl) (fun _ _ d _ _ h => by cases d <;> exact h) ⟨⟨wr.drew, HED.out⟩, rfl⟩ ?_
                  rw [CalmN.wpT]
                  simp only [CalmN.pickOps, List.getElem?_toArray, List.getElem?_cons_zero, List.getElem?_cons_succ]
                  repeat (go_big_quiet_step (fail))
                  clear q0 q1 k0 c1
                  generalize wr.drew = wd at *
                  refine wpQuiet_nil ⟨?_, ?_⟩
                  case' refine_1 =>
                    simp only [CalmN.wpT, CalmN.wpSt, CalmN.pickOps, List.getElem?_toArray, List.getElem?_cons_zero, List.getElem?_cons_succ]
                    intro KK hKK
                    rw [if_pos (by rfl)]
                    go_wp2_with fail
                    refine hKK _ _ hS (fun x => ∃ z : Calm.OnB bx wr, x = z.1) (fun _ h => h) hS ?_
                    clear hKK
                    refine wpQuiet_nil ?_
                    intro KK hKK
                    rw [if_pos (by rfl)]
                    go_wp2_with fail
                    refine hKK _ _ hS (fun x => ∃ z : Calm.OnB bx wr, x = z.1) (fun _ h => h) hS ?_
                    clear hKK
                    refine wpQuiet_nil ?_
                    intro KK hKK
                    rw [if_pos (by rfl)]
                    go_wp2_with fail
                    refine HOF.out.mono ?_; rintro _ we ⟨rfl, q, hq⟩
                    have HUE : Hid (UBZ we gk t) := hide (by rw [hq]; exact HUD.out.drewN q)
                    have HRE : Hid (R12 w we g1 g5 #[.slice AT G.ts.length cT, .slice AN G.ns.length cN, .slice (some ⟨g, o, none⟩) G.rs.length cR, .int .i64 G.st] T F) := hide (by rw [hq]; exact HRD.out.drewN q)
                    have hbe : we.heap[bx]? = wr.heap[bx]? := by rw [hq]; exact HED.out
                    have HBE := hide hbe
                    have hS : ∃ z : Calm.OnB bx wr, we = z.1 := ⟨⟨we, hbe⟩, rfl⟩
                    have km2 := HUE.out.cell m2 HM2.out
                    rw [HV2.out] at km2
                    have km := HUE.out.cell m HM1.out
                    rw [HV1.out] at km
                    have fm := HUE.out.frozen m2
                    have lu := HUE.out.lt
                    clear hq hbe
                    go_wp2_with fail
                    refine hKK _ _ hS (fun x => ∃ z : Calm.OnB bx wr, x = z.1) (fun _ h => h) hS ?_
                    clear hKK
                  case' refine_2 =>
                    simp only [CalmN.wpSt]
                    intro KK hKK
                    rw [if_pos (by rfl)]
                    go_wp2_with fail
                    refine hKK _ _ hS (fun x => ∃ z : Calm.OnB bx wr, x = z.1) (fun _ h => h) hS ?_
                    clear hKK
                    rw [CalmN.wpT]
                    simp only [CalmN.pickOps]
                    refine wpQuiet_nil ⟨?_, ?_⟩
                    case' refine_1 =>
                      simp only [CalmN.wpT, CalmN.wpSt, CalmN.pickOps, List.getElem?_toArray, List.getElem?_cons_zero, List.getElem?_cons_succ]
                      intro KK hKK
                      rw [if_pos (by rfl)]
                      go_wp2_with fail
                      refine hKK _ _ hS (fun x => ∃ z : Calm.OnB bx wr, x = z.1) (fun _ h => h) hS ?_
                      clear hKK
                      refine wpQuiet_nil ?_
                      intro KK hKK
                      rw [if_pos (by rfl)]
                      go_wp2_with fail
                      refine HOF.out.mono ?_; rintro _ we ⟨rfl, q, hq⟩
                      have HUE : Hid (UBZ we gk t) := hide (by rw [hq]; exact HUD.out.drewN q)
                      have HRE : Hid (R12 w we g1 g5 #[.slice AT G.ts.length cT, .slice AN G.ns.length cN, .slice (some ⟨g, o, none⟩) G.rs.length cR, .int .i64 G.st] T F) := hide (by rw [hq]; exact HRD.out.drewN q)
                      have hbe : we.heap[bx]? = wr.heap[bx]? := by rw [hq]; exact HED.out
                      have HBE := hide hbe
                      have hS : ∃ z : Calm.OnB bx wr, we = z.1 := ⟨⟨we, hbe⟩, rfl⟩
                      have km2 := HUE.out.cell m2 HM2.out
                      rw [HV2.out] at km2
                      have km := HUE.out.cell m HM1.out
                      rw [HV1.out] at km
                      have fm := HUE.out.frozen m2
                      have lu := HUE.out.lt
                      clear hq hbe
                      go_wp2_with fail
                      refine hKK _ _ hS (fun x => ∃ z : Calm.OnB bx wr, x = z.1) (fun _ h => h) hS ?_
                      clear hKK
                    case' refine_2 =>
                      simp only [CalmN.wpT, CalmN.wpSt, CalmN.pickOps, List.getElem?_toArray, List.getElem?_cons_zero, List.getElem?_cons_succ]
                      intro KK hKK
                      rw [if_pos (by rfl)]
                      go_wp2_with fail
                      refine HOF.out.mono ?_; rintro _ we ⟨rfl, q, hq⟩
                      have HUE : Hid (UBZ we gk t) := hide (by rw [hq]; exact HUD.out.drewN q)
                      have HRE : Hid (R12 w we g1 g5 #[.slice AT G.ts.length cT, .slice AN G.ns.length cN, .slice (some ⟨g, o, none⟩) G.rs.length cR, .int .i64 G.st] T F) := hide (by rw [hq]; exact HRD.out.drewN q)
                      have hbe : we.heap[bx]? = wr.heap[bx]? := by rw [hq]; exact HED.out
                      have HBE := hide hbe
                      have hS : ∃ z : Calm.OnB bx wr, we = z.1 := ⟨⟨we, hbe⟩, rfl⟩
                      have km2 := HUE.out.cell m2 HM2.out
                      rw [HV2.out] at km2
                      have km := HUE.out.cell m HM1.out
                      rw [HV1.out] at km
                      have fm := HUE.out.frozen m2
                      have lu := HUE.out.lt
                      clear hq hbe
                      go_wp2_with fail
                      refine hKK _ _ hS (fun x => ∃ z : Calm.OnB bx wr, x = z.1) (fun _ h => h) hS ?_
                      clear hKK
                      refine wpQuiet_nil ?_
                      intro KK hKK
                      rw [if_pos (by rfl)]
                      go_wp2_with fail
                      refine hKK _ _ hS (fun x => ∃ z : Calm.OnB bx wr, x = z.1) (fun _ h => h) hS ?_
                      clear hKK
                  all_goals
                    repeat (go_big_quiet_step (fail))
                    refine wpQuiet_nil ?_
                    obtain ⟨wf, hwf⟩ : ∃ y, y = we.setCell ⟨gk, m2, none⟩ (.int .u32 (v3 : Int)) := ⟨_, rfl⟩
                    have HUF : Hid (UBZ wf gk (((Gm.sufs r).take (k + 1)).foldl h cur)) := hide (by rw [hwf, HX.out]; exact HUE.out.set_ m2 v3)
                    have HRF : Hid (R12 w wf g1 g5 #[.slice AT G.ts.length cT, .slice AN G.ns.length cN, .slice (some ⟨g, o, none⟩) G.rs.length cR, .int .i64 G.st] T F) := hide (by rw [hwf]; exact HRE.out.put (by have := HGK.out; omega) (by have := HGK.out; omega) HGK.out.2.2 _ _)
                    have HBF : Hid (wf.heap[bx]? = wr.heap[bx]?) := hide (by rw [hwf]; exact (Below.heap_setCell we ⟨gk, m2, none⟩ _ _ (fun e => HNE.out e.symm)).trans HBE.out)
                    have hS2 : ∃ z : Calm.OnB bx wr, wf = z.1 := ⟨⟨wf, HBF.out⟩, rfl⟩
                    intro KK hKK
                    rw [if_pos (by rfl)]
                    go_wp2_with fail
                    rw [← hwf]
                    refine hKK _ _ hS2 (fun x => ∃ z : Calm.OnB bx wr, x = z.1) (fun _ h => h) hS2 ?_
                    clear hKK hwf hS2
                    refine wpQuiet_nil ?_
                    go_wp2
                    go_roundw
                    case rel => exact ⟨k + 1, hlt3, by rw [HJ.out], HUF, HRF, hide (HBF.out.trans HBK.out)⟩
                    case measure => have := HJ.out; simp [intOf]; omega
                · have hz0 : decide (z < 0) = false := decide_eq_false h0
                  have HX : Hid (((Gm.sufs r).take (k + 1)).foldl h cur = t) := hide (by rw [HS1.out, HF1.out, if_neg h0])
                  clear hzi hzn h0 HS1 HF1
                  go_wp2
                  go_roundw
                  case rel => exact ⟨k + 1, hlt3, by go_num, by rw [HX.out]; exact HU, HW, HBK⟩
                  case measure => simp [intOf]; omega
              · obtain rfl : k = r.length := by omega
                have e : (Gm.sufs r).take r.length = Gm.sufs r := by rw [← Gm.sufs_len r, List.take_length]
                rw [e, ← HFX.out] at HU
                go_wp2
                go_roundw
                case rel => exact ⟨i + 1, hlt2, by go_num, HU, HW⟩
                case measure => simp [intOf]; omega
          · obtain rfl : i = G.rs.length := by omega
            rw [List.take_length] at HU
            go_wp2
            go_roundw
            case rel => exact ⟨n + 1, hlt, by go_num, by rw [HNX.out]; exact HU, HW⟩
            case measure => simp [intOf]; omega
      · obtain rfl : n = G.ns.length := by omega
        rw [HFST.out] at HU
        go_wp2
        go_ret
        exact ⟨fun _ => ⟨gk, by rw [Gm.flw_len]; rfl, by have := HGK.out; omega, HU.out, HW.out.o.below⟩, fun h => by simp at h⟩
end Go.Proofs.YthjohhcgegcmhaaGreat

namespace Go.Proofs.YthjohhcgegcmhaaGreat
set_option maxRecDepth 100000
open Go.RowKit

set_option maxHeartbeats 16000000 in
theorem firstTells_walk (v : Value) (G : Gm.Gr) (w : World) (hg : RdGr w w.heap.size v G) (hf : Gm.Fit G) :
    Calls Tryz.prog 3 #[v] w fun e w' => e = .returned (.bool true) ∧ Below w.heap.size w w' := by
  have HGG := hide (fun (x : World) (h : Below w.heap.size w x) => hg.below h (Nat.le_refl _))
  have HAL := hide (fun (x : World) => alive12_any x)
  have TG := hide (fun (x : World) (h : Below w.heap.size w x) => great9_any v G w.heap.size x (HGG.out x h) h.size)
  obtain ⟨sN, hN⟩ : ∃ s, s = (if Gm.right G = true then Gm.fst G else []) := ⟨_, rfl⟩
  obtain ⟨sP, hP⟩ : ∃ s, s = (if Gm.right G = true then Gm.flw G else []) := ⟨_, rfl⟩
  have HN1 := hide (fun (x : World) (h : Below w.heap.size w x) => (show Calls _ _ _ _ (RowZs sN x) from (fst_any v G w.heap.size x (HGG.out x h) hf h.size).mono fun e w' k => by rw [hN]; exact k.rd))
  have HN2 := hide (fun (x : World) (h : Below w.heap.size w x) => (show Calls _ _ _ _ (RowZs sN x) from (rfirst12_any v G w.heap.size x (HGG.out x h) hf h.size).mono fun e w' k => by rw [hN]; exact k.rd))
  have HP1 := hide (fun (x : World) (h : Below w.heap.size w x) => (show Calls _ _ _ _ (RowZs sP x) from (follow_any v G w.heap.size x (HGG.out x h) hf h.size).mono fun e w' k => by rw [hP]; exact k.rd))
  have HP2 := hide (fun (x : World) (h : Below w.heap.size w x) => (show Calls _ _ _ _ (RowZs sP x) from (rfollow12_any v G w.heap.size x (HGG.out x h) hf h.size).mono fun e w' k => by rw [hP]; exact k.rd))
  have hlens : Gm.great G = false → sN.length ≤ 9223372036854775807 ∧ sP.length ≤ 9223372036854775807 := fun hh => by
    have h40 : G.ns.length ≤ 40 := by
      unfold Gm.great at hh
      simp only [Bool.or_eq_false_iff, decide_eq_false_iff_not] at hh
      omega
    rw [hN, hP]
    refine ⟨?_, ?_⟩ <;> (split <;> simp [Gm.fst_len, Gm.flw_len] <;> omega)
  have HLS := hide hlens
  obtain ⟨A0, c0, A1, c1, A2, c2, rfl, _⟩ := hg
  have HQ0 := hide (One.start w #[.slice A0 G.ts.length c0, .slice A1 G.ns.length c1, .slice A2 G.rs.length c2, .int .i64 G.st])
  have HXC := hide (fun (x : World) (h : One w #[.slice A0 G.ts.length c0, .slice A1 G.ns.length c1, .slice A2 G.rs.length c2, .int .i64 G.st] x) => And.intro (h.c 0 _ rfl) (And.intro (h.c 1 _ rfl) (And.intro (h.c 2 _ rfl) (h.c 3 _ rfl))))
  clear hN hP hlens hf
  go_enter Tryz.func3, Tryz.ntmps3
  go_wp2_with fail
  refine (HAL.out _).mono ?_; rintro _ w1 ⟨rfl, hb1⟩
  have HQ1 := hide (HQ0.out.on hb1)
  obtain ⟨x0, x1, x2, x3⟩ := HXC.out w1 HQ1.out
  clear hb1
  cases hgr : Gm.great G with
  | true =>
    rw [hgr] at TG
    go_wp2_with fail
    refine (TG.out _ HQ1.out.below).mono ?_; rintro _ w2 ⟨rfl, hb2⟩
    have HQ2 := hide (HQ1.out.on hb2)
    clear hb2
    go_wp2
    go_ret
    exact ⟨rfl, HQ2.out.below⟩
  | false =>
    obtain ⟨hln, hlp⟩ := HLS.out hgr
    have HLN := hide hln
    have HLP := hide hlp
    rw [hgr] at TG
    clear hln hlp
    go_upto_region 5 with fail
    refine (TG.out _ HQ1.out.below).mono ?_; rintro _ w2 ⟨rfl, hb2⟩
    have HQ2 := hide (HQ1.out.on hb2)
    clear x0 x1 x2 x3 hb2 hgr TG
    go_upto_region 5 with fail
    have q0 := fun y : Calm.On w2.heap.size w2 => (HXC.out y.1 (HQ2.out.on y.2)).1
    have q1 := fun y : Calm.On w2.heap.size w2 => (HXC.out y.1 (HQ2.out.on y.2)).2.1
    have q2 := fun y : Calm.On w2.heap.size w2 => (HXC.out y.1 (HQ2.out.on y.2)).2.2.1
    have q3 := fun y : Calm.On w2.heap.size w2 => (HXC.out y.1 (HQ2.out.on y.2)).2.2.2
    have HD2 : Hid (Below w2.heap.size w2 w2.drew) := hide (below_drewN (Below.refl _ _) 1)
    refine CalmN.region_tree (fun x => ∃ y : Calm.On w2.heap.size w2, x = y.1) (.one [0, 2] 1 (.one [] 3 (.one [] 4 (.one [5, 6, 8] 7 (.one [] 9 (.one [] 10 (.fin [11, 12]))))))) (by kernel_rfl) (by kernel_rfl) (fun _ _ d _ _ h => by cases d <;> exact h) ⟨⟨w2.drew, HD2.out⟩, rfl⟩ ?_
    simp only [CalmN.wpT, CalmN.wpSt, CalmN.pickOps, List.getElem?_toArray, List.getElem?_cons_zero, List.getElem?_cons_succ]
    repeat (go_big_quiet_step (fail))
    refine wpQuiet_nil ?_
    obtain ⟨wd, hwd⟩ : ∃ y, y = w2.drew := ⟨_, rfl⟩
    rw [← hwd] at HD2 ⊢
    clear hwd
    have HB0 := hide HD2.out
    intro KK hKK
    rw [if_pos (by rfl)]
    go_wp2_with fail
    refine (HN1.out _ (HQ2.out.on HB0.out).below).mono ?_; rintro _ v1 ⟨Aa1, ca1, rfl, hr1, hb⟩
    have HB1 := hide (HB0.out.trans (hb.mono HB0.out.size))
    have HR1 := hide hr1
    clear hb hr1
    go_wp2_with fail
    refine hKK _ _ ⟨⟨_, HB1.out⟩, rfl⟩ (fun x => ∃ y : Calm.On w2.heap.size w2, x = y.1) (fun _ h => h) ⟨⟨_, HB1.out⟩, rfl⟩ ?_
    refine wpQuiet_nil ?_
    intro KK hKK
    rw [if_pos (by rfl)]
    go_wp2_with fail
    refine (HN2.out _ (HQ2.out.on HB1.out).below).mono ?_; rintro _ v2 ⟨Aa2, ca2, rfl, hr2, hb⟩
    have HB2 := hide (HB1.out.trans (hb.mono HB1.out.size))
    have HBO2 := hide (sets_same Aa1 Aa2 ca1 ca2 sN.length sN v2 (HR1.out.up hb) hr2 HLN.out rfl)
    clear hb hr2
    go_wp2_with fail
    refine hKK _ _ ⟨⟨_, HB2.out⟩, rfl⟩ (fun x => ∃ y : Calm.On w2.heap.size w2, x = y.1) (fun _ h => h) ⟨⟨_, HB2.out⟩, rfl⟩ ?_
    refine wpQuiet_nil ?_
    intro KK hKK
    rw [if_pos (by rfl)]
    go_wp2_with fail
    refine HBO2.out.mono ?_; rintro _ v3 ⟨rfl, n3, hv3⟩
    have HB3 : Hid (Below w2.heap.size w2 v3) := hide (by rw [hv3]; exact below_drewN HB2.out _)
    clear hv3 HBO2 HR1
    go_wp2_with fail
    refine hKK _ _ ⟨⟨_, HB3.out⟩, rfl⟩ (fun x => ∃ y : Calm.On w2.heap.size w2, x = y.1) (fun _ h => h) ⟨⟨_, HB3.out⟩, rfl⟩ ?_
    repeat (go_big_quiet_step (fail))
    refine wpQuiet_nil ?_
    intro KK hKK
    rw [if_pos (by rfl)]
    go_wp2_with fail
    refine (HP1.out _ (HQ2.out.on HB3.out).below).mono ?_; rintro _ v4 ⟨Aa4, ca4, rfl, hr4, hb⟩
    have HB4 := hide (HB3.out.trans (hb.mono HB3.out.size))
    have HR4 := hide hr4
    clear hb hr4
    go_wp2_with fail
    refine hKK _ _ ⟨⟨_, HB4.out⟩, rfl⟩ (fun x => ∃ y : Calm.On w2.heap.size w2, x = y.1) (fun _ h => h) ⟨⟨_, HB4.out⟩, rfl⟩ ?_
    refine wpQuiet_nil ?_
    intro KK hKK
    rw [if_pos (by rfl)]
    go_wp2_with fail
    refine (HP2.out _ (HQ2.out.on HB4.out).below).mono ?_; rintro _ v5 ⟨Aa5, ca5, rfl, hr5, hb⟩
    have HB5 := hide (HB4.out.trans (hb.mono HB4.out.size))
    have HBO5 := hide (sets_same Aa4 Aa5 ca4 ca5 sP.length sP v5 (HR4.out.up hb) hr5 HLP.out rfl)
    clear hb hr5
    go_wp2_with fail
    refine hKK _ _ ⟨⟨_, HB5.out⟩, rfl⟩ (fun x => ∃ y : Calm.On w2.heap.size w2, x = y.1) (fun _ h => h) ⟨⟨_, HB5.out⟩, rfl⟩ ?_
    refine wpQuiet_nil ?_
    intro KK hKK
    rw [if_pos (by rfl)]
    go_wp2_with fail
    refine HBO5.out.mono ?_; rintro _ v6 ⟨rfl, n6, hv6⟩
    have HB6 : Hid (Below w2.heap.size w2 v6) := hide (by rw [hv6]; exact below_drewN HB5.out _)
    clear hv6 HBO5 HR4
    go_wp2_with fail
    refine hKK _ _ ⟨⟨_, HB6.out⟩, rfl⟩ (fun x => ∃ y : Calm.On w2.heap.size w2, x = y.1) (fun _ h => h) ⟨⟨_, HB6.out⟩, rfl⟩ ?_
    repeat (go_big_quiet_step (fail))
    refine wpQuiet_nil ?_
    clear q0 q1 q2 q3
    go_wp2
    go_ret
    exact ⟨rfl, (HQ2.out.on HB6.out).below⟩
end Go.Proofs.YthjohhcgegcmhaaGreat
