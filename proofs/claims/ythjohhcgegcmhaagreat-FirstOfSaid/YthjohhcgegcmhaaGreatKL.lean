/- Part of the proofs over this program: FstRef2. -/
import Derived.Test.YthjohhcgegcmhaaGreatKK
namespace Go.Proofs.YthjohhcgegcmhaaGreat
set_option maxRecDepth 100000
open Go.RowKit

theorem all_take {l : List Int} {p : Int → Bool} {k : Nat} (h : k < l.length) : (l.take (k + 1)).all p = ((l.take k).all p && p l[k]) := by
  rw [List.take_succ_eq_append_getElem h, List.all_append]; simp
theorem all_not {l : List Int} {p : Int → Bool} {k : Nat} (h : k < l.length) (hp : p l[k] = false) : l.all p = false := List.all_eq_false.2 ⟨_, List.getElem_mem h, by rw [hp]; simp⟩
set_option maxHeartbeats 8000000 in
theorem rofG_any (v : Value) (G : Gm.Gr) (l : List Int) (rest : Nat) (A : Option Addr) (c B : Nat) (w : World) (hg : RdGr w B v G) (hf : Gm.Fit G) (hB : B ≤ w.heap.size) (hr : RdI w B A l) (hin : ∀ z ∈ l, Gm.In z) (hl : l.length ≤ 9223372036854775807) (hrest : rest < 4294967296) :
    Calls Tryz.prog 14 #[v, .slice A l.length c, .int .u32 rest] w fun e w' => e = .returned (.int .u32 (Gm.ofG G l rest)) ∧ Below w.heap.size w w' := by
  have H1 := hide (fun (x : World) (h : Below w.heap.size w x) => rright_any v G B x (hg.below h hB) hf (Nat.le_trans hB h.size))
  have HNU := hide (fun (q : Gm.right G = true) (x : World) (h : Below w.heap.size w x) => (show Calls _ _ _ _ (RowT _ _) from (rnullable_any v G B x (hg.below h hB) hf (Nat.le_trans hB h.size)).mono fun e w' k => k.1 q))
  have HFI := hide (fun (q : Gm.right G = true) (x : World) (h : Below w.heap.size w x) => (show Calls _ _ _ _ (RowZn _ _) from (rfirst12_any v G B x (hg.below h hB) hf (Nat.le_trans hB h.size)).mono fun e w' k => k.1 q))
  have HHA := hide (fun (z : Int) (hz : Gm.In z) (x : World) (h : Below w.heap.size w x) => rhas_any9 v G B z hz x (hg.below h hB))
  obtain ⟨AT, cT, AN, cN, AR, cR, rfl, _⟩ := hg
  have HS0 := hide (One.start w #[.slice AT G.ts.length cT, .slice AN G.ns.length cN, .slice AR G.rs.length cR, .int .i64 G.st])
  have HR := hide hr
  have HB := hide hB
  have HIN := hide hin
  have HRE := hide hrest
  have HE : Hid (Gm.ofG G l rest = if Gm.right G = true ∧ l.all (Gm.has G) = true then Gm.ofN (Gm.gn false G.rs G.ns.length) (Gm.fst G) rest l else 0) := hide rfl
  have hlen : (l.length : Int) ≤ 9223372036854775807 := by omega
  generalize hr0 : Gm.ofG G l rest = r0 at *
  clear hr0 hr hB hin hl hrest hf
  cases q : Gm.right G
  · rw [q] at H1
    have HX : Hid (r0 = 0) := hide (by rw [HE.out, q]; rfl)
    clear q
    go_enter Tryz.func14, Tryz.ntmps14
    go_wp2_with fail
    refine (H1.out _ HS0.out.below).mono ?_; rintro _ w2 ⟨rfl, hb⟩
    have HB2 := hide (HS0.out.on hb)
    clear hb
    go_wp2
    go_ret
    exact ⟨by rw [HX.out]; rfl, HB2.out.below⟩
  · have HNU := hide (HNU.out q)
    have HFI := hide (HFI.out q)
    have HOK := hide (Gm.right_ok.1 q)
    have HQ := hide q
    rw [q] at H1
    clear q
    go_enter Tryz.func14, Tryz.ntmps14
    go_wp2_with fail
    refine (H1.out _ HS0.out.below).mono ?_; rintro _ w2 ⟨rfl, hb⟩
    have HB2 := hide (HS0.out.on hb)
    clear hb H1 HS0
    go_wp2
    go_loopw [7] (fun vi wr => ∃ k : Nat, k ≤ l.length ∧ vi = .int .i64 k ∧ Hid ((l.take k).all (Gm.has G) = true) ∧ Hid (One w #[.slice AT G.ts.length cT, .slice AN G.ns.length cN, .slice AR G.rs.length cR, .int .i64 G.st] wr)) (fun vi _ => l.length - (intOf vi).toNat)
    case atStart => exact ⟨0, Nat.zero_le _, rfl, hide (by simp), HB2⟩
    case round =>
      clear HB2
      obtain ⟨k, hk, rfl, HK, HW⟩ := hrel
      have hd : w.heap.size < wr.heap.size := HW.out.size
      have q0 := fun y : Calm.On wr.heap.size wr => (y.2.cell (p := ⟨w.heap.size, 0, none⟩) hd).trans (HW.out.c 0 _ rfl)
      have q1 := fun y : Calm.On wr.heap.size wr => (y.2.cell (p := ⟨w.heap.size, 1, none⟩) hd).trans (HW.out.c 1 _ rfl)
      have q2 := fun y : Calm.On wr.heap.size wr => (y.2.cell (p := ⟨w.heap.size, 2, none⟩) hd).trans (HW.out.c 2 _ rfl)
      have q3 := fun y : Calm.On wr.heap.size wr => (y.2.cell (p := ⟨w.heap.size, 3, none⟩) hd).trans (HW.out.c 3 _ rfl)
      by_cases hlt : k < l.length
      · obtain ⟨g, o, rfl, hgb, hc⟩ := (HR.out.below HW.out.below HB.out) (by omega)
        have kc := hc k hlt
        rw [L.gd_lt hlt] at kc
        have hgw : g < wr.heap.size := by have := HB.out; have := HW.out.below.size; omega
        have k0 := fun y : Calm.On wr.heap.size wr => (y.2.cell (p := ⟨g, o + k, none⟩) hgw).trans kc
        have HHz := hide (fun x h => HHA.out l[k] (HIN.out _ (List.getElem_mem hlt)) x h)
        have HN := hide (all_take (p := Gm.has G) hlt)
        have HY := hide (fun h => all_not (p := Gm.has G) hlt h)
        have HSB : Hid (∀ z, Below wr.heap.size wr z → ∃ q : Calm.On wr.heap.size wr, z = q.1) := hide (fun z hz => ⟨⟨z, hz⟩, rfl⟩)
        have HD : Hid (Below wr.heap.size wr wr.drew) := hide (below_drewN (Below.refl _ _) 1)
        clear hc kc
        generalize l[k] = z at *
        cases hz : Gm.has G z
        · rw [hz] at HHz
          have HX : Hid (r0 = 0) := hide (by rw [HE.out, HY.out hz]; simp)
          clear hz HN HY
          go_upto_region 6 with fail
          refine CalmN.region_tree (fun x => ∃ y : Calm.On wr.heap.size wr, x = y.1) (.one [0, 1, 2, 3, 4] 5 (.fin [6])) (by kernel_rfl) (by kernel_rfl) (fun _ _ d _ _ h => by cases d <;> exact h) ⟨⟨wr.drew, HD.out⟩, rfl⟩ ?_
          simp only [CalmN.wpT, CalmN.wpSt, CalmN.pickOps, List.getElem?_toArray, List.getElem?_cons_zero, List.getElem?_cons_succ]
          repeat (go_big_quiet_step (fail))
          refine wpQuiet_nil ?_
          generalize wr.drew = wd at *
          clear q0 q1 q2 q3 k0
          intro KK hKK
          rw [if_pos (by rfl)]
          go_wp2_with fail
          refine (HHz.out wd (HW.out.on HD.out).below).mono ?_; rintro _ we ⟨rfl, hb⟩
          have HE2 := hide (HD.out.trans (hb.mono HD.out.size))
          clear hb
          go_wp2_with fail
          refine hKK _ _ (HSB.out _ HE2.out) (fun x => ∃ y : Calm.On wr.heap.size wr, x = y.1) (fun _ h => h) (HSB.out _ HE2.out) ?_
          clear hKK
          repeat (go_big_quiet_step (fail))
          refine wpQuiet_nil ?_
          go_wp2
          go_ret
          exact ⟨by rw [HX.out]; rfl, (HW.out.on HE2.out).below⟩
        · rw [hz] at HHz HN
          have HX := hide (HN.out.trans (by rw [HK.out]))
          clear hz HN HY
          go_upto_region 6 with fail
          refine CalmN.region_tree (fun x => ∃ y : Calm.On wr.heap.size wr, x = y.1) (.one [0, 1, 2, 3, 4] 5 (.fin [6])) (by kernel_rfl) (by kernel_rfl) (fun _ _ d _ _ h => by cases d <;> exact h) ⟨⟨wr.drew, HD.out⟩, rfl⟩ ?_
          simp only [CalmN.wpT, CalmN.wpSt, CalmN.pickOps, List.getElem?_toArray, List.getElem?_cons_zero, List.getElem?_cons_succ]
          repeat (go_big_quiet_step (fail))
          refine wpQuiet_nil ?_
          generalize wr.drew = wd at *
          clear q0 q1 q2 q3 k0
          intro KK hKK
          rw [if_pos (by rfl)]
          go_wp2_with fail
          refine (HHz.out wd (HW.out.on HD.out).below).mono ?_; rintro _ we ⟨rfl, hb⟩
          have HE2 := hide (HD.out.trans (hb.mono HD.out.size))
          clear hb
          go_wp2_with fail
          refine hKK _ _ (HSB.out _ HE2.out) (fun x => ∃ y : Calm.On wr.heap.size wr, x = y.1) (fun _ h => h) (HSB.out _ HE2.out) ?_
          clear hKK
          repeat (go_big_quiet_step (fail))
          refine wpQuiet_nil ?_
          go_wp2
          go_roundw
          case rel => exact ⟨k + 1, hlt, by go_num, HX, hide (HW.out.on HE2.out)⟩
          case measure => simp [intOf]; omega
      · obtain rfl : k = l.length := by omega
        rw [List.take_length] at HK
        have hok := HOK.out
        have HX : Hid (r0 = Gm.ofN (Gm.gn false G.rs G.ns.length) (Gm.fst G) rest l) := hide (by rw [HE.out, if_pos ⟨HQ.out, HK.out⟩])
        have hsy := fun z hz => Gm.has_in hok (List.all_eq_true.1 HK.out z hz)
        have HKO := hide (fun (x : World) (h : Below w.heap.size w x) (g1 g5 : Nat) (hu1 : UBO x g1 (Gm.gn false G.rs G.ns.length)) (hu5 : UBZ x g5 (Gm.fst G)) => rof12_any l rest (Gm.gn false G.rs G.ns.length) (Gm.fst G) A (some ⟨g1, 0, none⟩) (some ⟨g5, 0, none⟩) c G.ns.length G.ns.length B x.heap.size x.heap.size x (HR.out.below h HB.out) (hu1.rd0 hu1.lt) (hu5.rd hu5.lt) HIN.out (fun z hz => (hsy z hz).1) (fun z hz => by rw [Gm.fst_len]; exact (hsy z hz).2.1) (by rw [Gm.fst_len, Gm.gn_len]) (Gm.fst_u32 hok) HRE.out (by omega))
        rw [Gm.fst_len, Gm.gn_len] at HKO
        unfold RowT at HNU
        unfold RowZn at HFI
        rw [Gm.gn_len] at HNU
        rw [Gm.fst_len] at HFI
        generalize Gm.ofN (Gm.gn false G.rs G.ns.length) (Gm.fst G) rest l = vv at *
        generalize Gm.gn false G.rs G.ns.length = T at *
        generalize Gm.fst G = F at *
        have HSB : Hid (∀ z, Below wr.heap.size wr z → ∃ q : Calm.On wr.heap.size wr, z = q.1) := hide (fun z hz => ⟨⟨z, hz⟩, rfl⟩)
        have HD : Hid (Below wr.heap.size wr wr.drew) := hide (below_drewN (Below.refl _ _) 1)
        clear hsy hok
        go_upto_region 8 with fail
        refine CalmN.region_tree (fun x => ∃ y : Calm.On wr.heap.size wr, x = y.1) (.one [0, 1, 3, 5] 2 (.one [] 4 (.one [] 6 (.fin [7])))) (by kernel_rfl) (by kernel_rfl) (fun _ _ d _ _ h => by cases d <;> exact h) ⟨⟨wr.drew, HD.out⟩, rfl⟩ ?_
        simp only [CalmN.wpT, CalmN.wpSt, CalmN.pickOps, List.getElem?_toArray, List.getElem?_cons_zero, List.getElem?_cons_succ]
        repeat (go_big_quiet_step (fail))
        refine wpQuiet_nil ?_
        generalize wr.drew = wd at *
        clear q0 q1 q2 q3
        intro KK hKK
        rw [if_pos (by rfl)]
        go_wp2_with fail
        refine (HNU.out wd (HW.out.on HD.out).below).mono ?_; rintro _ w3 ⟨g1, rfl, _, hu1, hb⟩
        have HB3 := hide (HD.out.trans (hb.mono HD.out.size))
        have HU1 := hide hu1
        clear hb hu1
        go_wp2_with fail
        refine hKK _ _ (HSB.out _ HB3.out) (fun x => ∃ y : Calm.On wr.heap.size wr, x = y.1) (fun _ h => h) (HSB.out _ HB3.out) ?_
        clear hKK
        refine wpQuiet_nil ?_
        intro KK hKK
        rw [if_pos (by rfl)]
        go_wp2_with fail
        refine (HFI.out w3 (HW.out.on HB3.out).below).mono ?_; rintro _ w4 ⟨g5, rfl, _, hu5, hb⟩
        have HB4 := hide (HB3.out.trans (hb.mono HB3.out.size))
        have HK4 := hide (HKO.out w4 (HW.out.on HB4.out).below g1 g5 (HU1.out.below hb HU1.out.lt) hu5)
        clear hb hu5
        go_wp2_with fail
        refine hKK _ _ (HSB.out _ HB4.out) (fun x => ∃ y : Calm.On wr.heap.size wr, x = y.1) (fun _ h => h) (HSB.out _ HB4.out) ?_
        clear hKK
        refine wpQuiet_nil ?_
        intro KK hKK
        rw [if_pos (by rfl)]
        go_wp2_with fail
        refine HK4.out.mono ?_; rintro _ w5 ⟨rfl, q, hq⟩
        have HB5 : Hid (Below wr.heap.size wr w5) := hide (by rw [hq]; exact below_drewN HB4.out q)
        clear hq
        go_wp2_with fail
        refine hKK _ _ (HSB.out _ HB5.out) (fun x => ∃ y : Calm.On wr.heap.size wr, x = y.1) (fun _ h => h) (HSB.out _ HB5.out) ?_
        clear hKK
        repeat (go_big_quiet_step (fail))
        refine wpQuiet_nil ?_
        go_wp2
        go_ret
        exact ⟨by rw [HX.out]; rfl, (HW.out.on HB5.out).below⟩
end Go.Proofs.YthjohhcgegcmhaaGreat
