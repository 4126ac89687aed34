/- Part of the proofs over this program: WalkOrders13. -/
import Derived.Test.YtajcegofflmoeaaGreatDoorKL
import Derived.Test.YtajcegofflmoeaaGreatDoorKN
namespace Go.Proofs.YtajcegofflmoeaaGreatDoor
set_option maxRecDepth 100000
open Go.RowKit

theorem Gm.oi_len (l : List Nat) : (Gm.oi l).length = l.length := by unfold Gm.oi; rw [List.length_map]
theorem Gm.oi_get (l : List Nat) (i : Nat) (h : i < l.length) : (Gm.oi l).getD i 0 = (l[i] : Int) := by
  unfold Gm.oi
  rw [L.gd_lt (by rw [List.length_map]; exact h), List.getElem_map]; rfl
theorem Gm.thereL_lt : ∀ (l : List Nat) (th : Nat), (∀ x ∈ l, x < 32) → th < 4294967296 → Gm.thereL th l < 4294967296
  | [], _, _, h => h
  | x :: l, th, hx, h => by
    rw [Gm.thereL]
    refine Gm.thereL_lt l _ (fun y hy => hx y (List.mem_cons_of_mem _ hy)) (S.or_lt h ?_)
    have := Nat.pow_lt_pow_right (a := 2) (by decide) (hx x (List.mem_cons_self ..))
    omega
theorem Gm.ordL_le (us : Nat) (st : List Nat) (n : Nat) : ∀ (m there : Nat), (Gm.ordL us st n m there).length ≤ m
  | 0, _ => Nat.le_refl _
  | m + 1, there => by
    rw [Gm.ordL]
    cases Gm.pickO us st n there with
    | none => simp
    | some i => have := Gm.ordL_le us st n m (there ||| 2 ^ i); simpa using this
theorem Gm.ord_lt {G : Gm.Gr} {x : Nat} (hx : x ∈ Gm.order G) : x < G.ns.length := by
  obtain ⟨i, hi, rfl⟩ := List.getElem_of_mem hx
  exact (Gm.chk_at (Gm.order_chk G) i hi).1
theorem Gm.usf_row {G : Gm.Gr} {x : Nat} (h : (Gm.usf G).testBit x = true) : (Gm.gn true G.rs G.ns.length).getD x false = true ∧ (Gm.rc G).getD x false = true := by
  have h1 := (Gm.mask_bit _ _ x).1 h
  rw [Gm.gn_at _ _ _ _ h1.1, Gm.rc_at _ _ h1.1, Gm.tr_iff, Gm.tr_iff]
  exact h1.2
theorem Gm.row_usf {G : Gm.Gr} {x : Nat} (hx : x < G.ns.length) (h1 : (Gm.gn true G.rs G.ns.length).getD x false = true) (h2 : (Gm.rc G).getD x false = true) : (Gm.usf G).testBit x = true := by
  rw [Gm.gn_at _ _ _ _ hx, Gm.tr_iff] at h1
  rw [Gm.rc_at _ _ hx, Gm.tr_iff] at h2
  exact (Gm.mask_bit _ _ x).2 ⟨hx, h1, h2⟩
theorem Gm.ord_at {G : Gm.Gr} (i : Nat) (hi : i < (Gm.order G).length) : (Gm.order G)[i] < G.ns.length ∧ (Gm.thereL 0 ((Gm.order G).take i)).testBit (Gm.order G)[i] = false ∧ Gm.subN ((Gm.stp G).getD (Gm.order G)[i] 0) (Gm.thereL 0 ((Gm.order G).take i)) = true ∧ (Gm.gn true G.rs G.ns.length).getD (Gm.order G)[i] false = true ∧ (Gm.rc G).getD (Gm.order G)[i] false = true := by
  have h := Gm.chk_at (Gm.order_chk G) i hi
  have h2 := h.2
  unfold Gm.next at h2
  rw [Bool.and_eq_true, Bool.and_eq_true] at h2
  exact ⟨h.1, by simpa using h2.1.2, h2.2, Gm.usf_row h2.1.1⟩
theorem Gm.ord_th {G : Gm.Gr} (i : Nat) (hi : i < (Gm.order G).length) : Gm.thereL 0 ((Gm.order G).take (i + 1)) = Gm.thereL 0 ((Gm.order G).take i) ||| 2 ^ (Gm.order G)[i] := by
  rw [List.take_succ_eq_append_getElem hi, Gm.thereL_app]
theorem Gm.ord_has {G : Gm.Gr} (hne : ¬ Gm.Endl G) {x : Nat} (hx : x < G.ns.length) (h1 : (Gm.gn true G.rs G.ns.length).getD x false = true) (h2 : (Gm.rc G).getD x false = true) : (Gm.thereL 0 (Gm.order G)).testBit x = true :=
  (Gm.thereL_bit x _ _).2 (.inr (Gm.order_all hne x (Gm.row_usf hx h1 h2)))

set_option maxHeartbeats 16000000 in
theorem cycleOrders_walk (v : Value) (G : Gm.Gr) (w : World) (hg : RdGr w w.heap.size v G) (hf : Gm.Fit G) (ht : Tab32 w) :
    Calls Tryz.prog 4 #[v] w fun e w' => e = .returned (.bool true) ∧ Below w.heap.size w w' := by
  have HGG := hide (fun (x : World) (h : Below w.heap.size w x) => hg.below h (Nat.le_refl _))
  have HAL := hide (fun (x : World) (h : Below w.heap.size w x) => alive13_any x (ht.below h))
  have TG := hide (fun (x : World) (h : Below w.heap.size w x) => great9_any v G w.heap.size x (HGG.out x h) h.size)
  have TR := hide (fun (x : World) (h : Below w.heap.size w x) => rright_any v G w.heap.size x (HGG.out x h) hf h.size)
  have TO := hide (fun (x : World) (h : Below w.heap.size w x) => cOrder_any v G w.heap.size x (HGG.out x h) hf h.size (ht.below h))
  have TE := hide (fun (x : World) (h : Below w.heap.size w x) => cEndless_any v G w.heap.size x (HGG.out x h) hf h.size)
  have TS := hide (fun (q : Gm.right G = true) (x : World) (h : Below w.heap.size w x) => (show Calls _ _ _ _ (RowZn _ _) from (cSteps_any v G w.heap.size x (HGG.out x h) hf h.size).mono fun e w' k => k.1 q))
  have TP := hide (fun (q : Gm.right G = true) (x : World) (h : Below w.heap.size w x) => (show Calls _ _ _ _ (RowT _ _) from (rproductive_any v G w.heap.size x (HGG.out x h) hf h.size).mono fun e w' k => k.1 q))
  have TQ := hide (fun (q : Gm.right G = true) (x : World) (h : Below w.heap.size w x) => (show Calls _ _ _ _ (RowT _ _) from (rreachable_any v G w.heap.size x (HGG.out x h) hf h.size).mono fun e w' k => k.1 q))
  obtain ⟨A0, c0, A1, c1, A2, c2, rfl, _, ⟨hlN, hmN⟩, _⟩ := hg
  have HQ0 := hide (One.start w #[.slice A0 G.ts.length c0, .slice A1 G.ns.length c1, .slice A2 G.rs.length c2, .int .i64 G.st])
  have HXC := hide (fun (x : World) (h : One w #[.slice A0 G.ts.length c0, .slice A1 G.ns.length c1, .slice A2 G.rs.length c2, .int .i64 G.st] x) => And.intro (h.c 0 _ rfl) (And.intro (h.c 1 _ rfl) (And.intro (h.c 2 _ rfl) (h.c 3 _ rfl))))
  unfold OrAns at TO
  clear hf ht
  go_enter Tryz.func4, Tryz.ntmps4
  go_wp2_with fail
  refine (HAL.out _ HQ0.out.below).mono ?_; rintro _ w1 ⟨rfl, hb1⟩
  have HQ1 := hide (HQ0.out.on hb1)
  obtain ⟨x0, x1, x2, x3⟩ := HXC.out w1 HQ1.out
  have lg : w.heap.size < w1.heap.size := HQ1.out.size
  clear hb1
  cases hgr : Gm.great G with
  | true =>
    rw [hgr] at TG
    go_wp2_with fail
    refine (TG.out _ HQ1.out.below).mono ?_; rintro _ w2 ⟨rfl, hb2⟩
    have HQ2 := hide (HQ1.out.on hb2)
    clear hb2
    go_wp2
    go_ret
    exact ⟨rfl, HQ2.out.below⟩
  | false =>
    rw [hgr] at TG
    cases hrt : Gm.right G with
    | false =>
      rw [hrt] at TR
      go_wp2_with fail
      refine (TG.out _ HQ1.out.below).mono ?_; rintro _ w2 ⟨rfl, hb2⟩
      have HQ2 := hide (HQ1.out.on hb2)
      clear x0 x1 x2 x3 lg hb2
      obtain ⟨x0, x1, x2, x3⟩ := HXC.out w2 HQ2.out
      have lg : w.heap.size < w2.heap.size := HQ2.out.size
      go_wp2_with fail
      refine (TR.out _ HQ2.out.below).mono ?_; rintro _ w3 ⟨rfl, hb3⟩
      have HQ3 := hide (HQ2.out.on hb3)
      clear hb3
      go_wp2
      go_ret
      exact ⟨rfl, HQ3.out.below⟩
    | true =>
      rw [hrt] at TR
      go_wp2_with fail
      refine (TG.out _ HQ1.out.below).mono ?_; rintro _ w2 ⟨rfl, hb2⟩
      have HQ2 := hide (HQ1.out.on hb2)
      clear x0 x1 x2 x3 lg hb2 TG HQ1
      obtain ⟨x0, x1, x2, x3⟩ := HXC.out w2 HQ2.out
      have lg : w.heap.size < w2.heap.size := HQ2.out.size
      go_wp2_with fail
      refine (TR.out _ HQ2.out.below).mono ?_; rintro _ w3 ⟨rfl, hb3⟩
      have HQ3 := hide (HQ2.out.on hb3)
      clear x0 x1 x2 x3 lg hb3 TR HQ2
      obtain ⟨x0, x1, x2, x3⟩ := HXC.out w3 HQ3.out
      have lg : w.heap.size < w3.heap.size := HQ3.out.size
      cases hen : Gm.enB G with
      | true =>
        have hoe : Gm.orE G = 10 := by unfold Gm.orE; rw [if_pos hrt, if_pos hen]
        have hog : Gm.orG G = [] := by unfold Gm.orG; rw [if_neg (by rw [hen]; simp)]
        rw [hoe, hog] at TO
        rw [hen] at TE
        clear hoe hog hgr hrt hen TS TP TQ
        go_wp2_with fail
        refine (TO.out _ HQ3.out.below).mono ?_; rintro _ w4 ⟨AO, cO, rfl, _, hb4⟩
        have HQ4 := hide (HQ3.out.on hb4)
        clear x0 x1 x2 x3 lg hb4
        obtain ⟨x0, x1, x2, x3⟩ := HXC.out w4 HQ4.out
        have lg : w.heap.size < w4.heap.size := HQ4.out.size
        go_wp2_with fail
        refine (TE.out _ HQ4.out.below).mono ?_; rintro _ w5 ⟨rfl, hb5⟩
        have HQ5 := hide (HQ4.out.on hb5)
        clear hb5 x0 x1 x2 x3 lg
        go_wp2
        go_ret
        exact ⟨rfl, HQ5.out.below⟩
      | false =>
        have TS := hide (TS.out hrt)
        have TP := hide (TP.out hrt)
        have TQ := hide (TQ.out hrt)
        have hoe : Gm.orE G = 0 := by unfold Gm.orE; rw [if_pos hrt, if_neg (by rw [hen]; simp)]
        have hog : Gm.orG G = Gm.oi (Gm.order G) := by unfold Gm.orG; rw [if_pos ⟨hrt, hen⟩]
        rw [hoe, hog, Gm.oi_len] at TO
        rw [hen] at TE
        have hok := Gm.right_ok.1 hrt
        have hn16 := (Gm.nons_iff G).1 hok.n
        have HN : Hid (1 ≤ G.ns.length ∧ G.ns.length ≤ 16) := hide (by omega)
        have HSU := hide (show Gm.U32 (Gm.stp G) from fun i => Gm.stp_u32 (by have := HN.out; omega) i)
        have HSL : Hid ((Gm.stp G).length = G.ns.length) := hide (Gm.stp_len G)
        have HPL : Hid ((Gm.gn true G.rs G.ns.length).length = G.ns.length) := hide (Gm.gn_len _ _ _)
        have HQL : Hid ((Gm.rc G).length = G.ns.length) := hide (Gm.rc_len G)
        have HOA := hide (fun i hi => Gm.ord_at (G := G) i hi)
        have HOT := hide (fun i hi => Gm.ord_th (G := G) i hi)
        have HOH := hide (fun x hx h1 h2 => Gm.ord_has (G := G) (fun h => by rw [(Gm.enB_iff hrt).2 h] at hen; cases hen) (x := x) hx h1 h2)
        have HOG := hide (fun i hi => Gm.oi_get (Gm.order G) i hi)
        have HOL : Hid ((Gm.order G).length ≤ 16) := hide (by have h1 := Gm.ordL_le (Gm.usf G) (Gm.stp G) G.ns.length G.ns.length 0; have := HN.out; exact Nat.le_trans h1 this.2)
        have HTL : Hid (∀ i, Gm.thereL 0 ((Gm.order G).take i) < 4294967296) := hide (fun i => Gm.thereL_lt _ _ (fun x hx => by have := Gm.ord_lt (List.mem_of_mem_take hx); have := HN.out; omega) (by decide))
        unfold RowZn at TS
        unfold RowT at TP TQ
        rw [HSL.out] at TS
        rw [HPL.out] at TP
        rw [HQL.out] at TQ
        have hlen : (G.ns.length : Int) ≤ 9223372036854775807 := by omega
        have hleo : ((Gm.order G).length : Int) ≤ 9223372036854775807 := by have := HOL.out; omega
        generalize Gm.stp G = st at *
        generalize Gm.gn true G.rs G.ns.length = P at *
        generalize Gm.rc G = Q at *
        generalize Gm.order G = O at *
        clear hgr hrt hok hn16 hlN hmN hoe hog hen
        go_wp2_with fail
        refine (TO.out _ HQ3.out.below).mono ?_; rintro _ w4 ⟨AO, cO, rfl, hro, hb4⟩
        have HQ4 := hide (HQ3.out.on hb4)
        have HR4 := hide hro
        clear x0 x1 x2 x3 lg hb4 hro TO HQ3
        obtain ⟨x0, x1, x2, x3⟩ := HXC.out w4 HQ4.out
        have lg : w.heap.size < w4.heap.size := HQ4.out.size
        go_wp2_with fail
        refine (TE.out _ HQ4.out.below).mono ?_; rintro _ w5 ⟨rfl, hb5⟩
        have HQ5 := hide (HQ4.out.on hb5)
        have HR5 := hide (HR4.out.up hb5)
        clear x0 x1 x2 x3 lg hb5 TE HQ4 HR4
        obtain ⟨x0, x1, x2, x3⟩ := HXC.out w5 HQ5.out
        have lg : w.heap.size < w5.heap.size := HQ5.out.size
        go_wp2_with fail
        refine (TS.out _ HQ5.out.below).mono ?_; rintro _ w2 ⟨gs, rfl, _, hu, hb6⟩
        have HQ2 := hide (HQ5.out.on hb6)
        have HR2 := hide (HR5.out.up hb6)
        have HU2 := hide hu
        clear x0 x1 x2 x3 lg hb6 hu TS HQ5 HR5
        go_upto_region 9 with fail
        have lg : w.heap.size < w2.heap.size := HQ2.out.size
        have q0 := fun y : Calm.On w2.heap.size w2 => (HXC.out y.1 (HQ2.out.on y.2)).1
        have q1 := fun y : Calm.On w2.heap.size w2 => (HXC.out y.1 (HQ2.out.on y.2)).2.1
        have q2 := fun y : Calm.On w2.heap.size w2 => (HXC.out y.1 (HQ2.out.on y.2)).2.2.1
        have q3 := fun y : Calm.On w2.heap.size w2 => (HXC.out y.1 (HQ2.out.on y.2)).2.2.2
        have HSB : Hid (∀ z, Below w2.heap.size w2 z → ∃ q : Calm.On w2.heap.size w2, z = q.1) := hide (fun z hz => ⟨⟨z, hz⟩, rfl⟩)
        have HD : Hid (Below w2.heap.size w2 w2.drew) := hide (below_drewN (Below.refl _ _) 1)
        refine CalmN.region_tree (fun x => ∃ y : Calm.On w2.heap.size w2, x = y.1) (.one [0, 2] 1 (.one [] 3 (.fin [4, 5]))) (by kernel_rfl) (by kernel_rfl) (fun _ _ d _ _ h => by cases d <;> exact h) ⟨⟨w2.drew, HD.out⟩, rfl⟩ ?_
        simp only [CalmN.wpT, CalmN.wpSt, CalmN.pickOps, List.getElem?_toArray, List.getElem?_cons_zero, List.getElem?_cons_succ]
        repeat (go_big_quiet_step (fail))
        refine wpQuiet_nil ?_
        generalize w2.drew = wd at *
        clear q0 q1 q2 q3
        intro KK hKK
        rw [if_pos (by rfl)]
        go_wp2_with fail
        refine (TP.out wd (HQ2.out.on HD.out).below).mono ?_; rintro _ v1 ⟨g1, rfl, _, hu1, hb⟩
        have HV1 := hide (HD.out.trans (hb.mono HD.out.size))
        have HU1 := hide hu1
        clear hb hu1
        go_wp2_with fail
        refine hKK _ _ (HSB.out _ HV1.out) (fun x => ∃ y : Calm.On w2.heap.size w2, x = y.1) (fun _ h => h) (HSB.out _ HV1.out) ?_
        clear hKK
        refine wpQuiet_nil ?_
        intro KK hKK
        rw [if_pos (by rfl)]
        go_wp2_with fail
        refine (TQ.out v1 (HQ2.out.on HV1.out).below).mono ?_; rintro _ v3 ⟨g3, rfl, _, hu3, hb⟩
        have HV3 := hide (HV1.out.trans (hb.mono HV1.out.size))
        have HU1' := hide (HU1.out.below hb HU1.out.lt)
        have HU3 := hide hu3
        clear hb hu3 HU1
        go_wp2_with fail
        refine hKK _ _ (HSB.out _ HV3.out) (fun x => ∃ y : Calm.On w2.heap.size w2, x = y.1) (fun _ h => h) (HSB.out _ HV3.out) ?_
        clear hKK
        repeat (go_big_quiet_step (fail))
        refine wpQuiet_nil ?_
        have HQ3 := hide (HQ2.out.on HV3.out)
        have HUS := hide (HU2.out.below HV3.out HU2.out.lt)
        have HRO := hide ((HR2.out.below HV3.out (Nat.le_refl _)).more HV3.out.size)
        clear HV1 HV3 HSB HD TP TQ HU2 HR2
        obtain ⟨x0, x1, x2, x3⟩ := HXC.out v3 HQ3.out
        have lg : w.heap.size < v3.heap.size := HQ3.out.size
        have hne : ((G.ns.length : Int) != (G.ns.length : Int)) = false := by simp
        have HBF := hide HQ3.out.below
        clear HQ2
        go_wp2
        clear x0 x1 x2 x3 lg hne
        have HT0 : Hid (Gm.thereL 0 (O.take 0) = 0) := hide (by rw [List.take_zero]; rfl)
        go_loopw [8, 9] (fun vt vi wr => ∃ (i q : Nat), i ≤ O.length ∧ vi = .int .i64 i ∧ vt = .int .u32 (Gm.thereL 0 (O.take i) : Nat) ∧ Hid (wr = v3.drewN q)) (fun _ vi _ => O.length - (intOf vi).toNat)
        case atStart => exact ⟨0, 0, Nat.zero_le _, rfl, by rw [HT0.out]; rfl, hide rfl⟩
        case round =>
          obtain ⟨i, q, hi, rfl, rfl, HW⟩ := hrel
          by_cases hlt : i < O.length
          · obtain ⟨go, oo, rfl, hgo, hco⟩ := HRO.out (by rw [Gm.oi_len]; omega)
            have hk := hco i (by rw [Gm.oi_len]; exact hlt)
            rw [HOG.out i hlt] at hk
            obtain ⟨hxn, hxt, hxs, hxp, hxq⟩ := HOA.out i hlt
            have HTi := hide (HOT.out i hlt)
            have HTLi := hide (HTL.out i)
            generalize O[i] = x at *
            generalize Gm.thereL 0 (O.take i) = th at *
            have hx16 : x ≤ 31 := by have := HN.out; omega
            have HH1 := hide (fun y => srhas_any th (x : Int) y HTLi.out (by omega))
            rw [S.has_nat _ hx16, hxt] at HH1
            have HB1 := hide (fun y => rbit_any (x : Int) y (by omega))
            have hb2 : S.bit (x : Int) = 2 ^ x := S.bit_nat hx16
            rw [hb2] at HB1
            have hbl : 2 ^ x < 4294967296 := by rw [← hb2]; exact S.bit_lt _
            have ho := hide (u32_or_nat th (2 ^ x) HTLi.out hbl)
            have hand := u32_andNot_nat (st.getD x 0) th (HSU.out x) HTLi.out
            have hq0 : (((st.getD x 0 &&& (4294967295 - th) : Nat) : Int) != 0) = false := by
              have := (Gm.andNot_sub (HSU.out x) HTLi.out).2 hxs
              rw [this]; rfl
            have hks := HUS.out.cell x (by rw [HSL.out]; exact hxn)
            have hkp := HU1'.out.cell x (by rw [HPL.out]; exact hxn)
            have hkq := HU3.out.cell x (by rw [HQL.out]; exact hxn)
            rw [hxp] at hkp
            rw [hxq] at hkq
            generalize st.getD x 0 &&& (4294967295 - th) = d at *
            generalize st.getD x 0 = av at *
            generalize 2 ^ x = b2 at *
            have HCE : Hid (∀ q, (v3.drewN q).cell? ⟨go, oo + i, none⟩ = some (.int .i64 (x : Int)) ∧ (v3.drewN q).cell? ⟨gs, x, none⟩ = some (.int .u32 (av : Int)) ∧ (v3.drewN q).cell? ⟨g1, x, none⟩ = some (.bool true) ∧ (v3.drewN q).cell? ⟨g3, x, none⟩ = some (.bool true)) := hide (fun _ => ⟨hk, hks, hkp, hkq⟩)
            have HSE : Hid (∀ q, go < (v3.drewN q).heap.size ∧ gs < (v3.drewN q).heap.size ∧ g1 < (v3.drewN q).heap.size ∧ g3 < (v3.drewN q).heap.size) := hide (fun _ => ⟨hgo, HUS.out.lt, HU1'.out.lt, HU3.out.lt⟩)
            have hx1 : (x : Int) < (G.ns.length : Int) := by omega
            have hilo : (i : Int) < (O.length : Int) := by omega
            clear hco hk hxt hxs hxp hxq hks hkp hkq hgo hb2 hbl
            have HWE := hide (HW.out)
            obtain ⟨c1, c2', c3, c4⟩ := HCE.out q
            obtain ⟨s1, s2, s3, s4⟩ := HSE.out q
            rw [← HW.out] at c1 c2' c3 c4 s1 s2 s3 s4
            go_wp2_with fail
            refine (HH1.out wr).mono ?_; rintro _ wj ⟨rfl, q2, hwj⟩
            have HWj : Hid (wj = v3.drewN (q + q2)) := hide (by rw [hwj, HW.out, World.drewN_drewN])
            clear c1 c2' c3 c4 s1 s2 s3 s4 hwj
            obtain ⟨c1, c2', c3, c4⟩ := HCE.out (q + q2)
            obtain ⟨s1, s2, s3, s4⟩ := HSE.out (q + q2)
            rw [← HWj.out] at c1 c2' c3 c4 s1 s2 s3 s4
            go_wp2_with fail
            refine (HB1.out wj).mono ?_; rintro _ wk ⟨rfl, q3, hwk⟩
            have HWk : Hid (wk = v3.drewN (q + q2 + q3)) := hide (by rw [hwk, HWj.out, World.drewN_drewN])
            clear hwk
            go_wp2_with (rw [ho.out])
            go_roundw
            case rel => exact ⟨i + 1, _, hlt, by go_num, by rw [HTi.out], HWk⟩
            case measure => simp [intOf]; omega
          · obtain rfl : i = O.length := by omega
            have HTe := hide (HTL.out O.length)
            rw [List.take_length] at HTe ⊢
            generalize Gm.thereL 0 O = th at *
            go_wp2
            go_loopw [10] (fun vi wr => ∃ (k q : Nat), k ≤ G.ns.length ∧ vi = .int .i64 k ∧ Hid (wr = v3.drewN q)) (fun vi _ => G.ns.length - (intOf vi).toNat)
            case atStart => exact ⟨0, q, Nat.zero_le _, rfl, HW⟩
            case round =>
              clear HW
              obtain ⟨k, q, hk, rfl, HW⟩ := hrel
              by_cases hlt2 : k < G.ns.length
              · have hkp := HU1'.out.cell k (by rw [HPL.out]; exact hlt2)
                have hkq := HU3.out.cell k (by rw [HQL.out]; exact hlt2)
                have hk31 : k ≤ 31 := by have := HN.out; omega
                have HH1 := hide (fun y => srhas_any th (k : Int) y HTe.out (by omega))
                rw [S.has_nat _ hk31] at HH1
                have HOHk := hide (HOH.out k hlt2)
                generalize P.getD k false = b1 at *
                generalize Q.getD k false = b2 at *
                have c1 : wr.cell? ⟨g1, k, none⟩ = some (.bool b1) := by rw [HW.out]; exact hkp
                have c2' : wr.cell? ⟨g3, k, none⟩ = some (.bool b2) := by rw [HW.out]; exact hkq
                have s1 : g1 < wr.heap.size := by rw [HW.out]; exact HU1'.out.lt
                have s2 : g3 < wr.heap.size := by rw [HW.out]; exact HU3.out.lt
                clear hkp hkq hk31
                cases b1
                · clear HOHk HH1
                  go_wp2
                  go_roundw
                  case rel => exact ⟨k + 1, q, hlt2, by go_num, HW⟩
                  case measure => simp [intOf]; omega
                · cases b2
                  · clear HOHk HH1
                    go_wp2
                    go_roundw
                    case rel => exact ⟨k + 1, q, hlt2, by go_num, HW⟩
                    case measure => simp [intOf]; omega
                  · rw [HOHk.out rfl rfl] at HH1
                    clear HOHk
                    go_wp2_with fail
                    refine (HH1.out wr).mono ?_; rintro _ wj ⟨rfl, q2, hwj⟩
                    have HWj : Hid (wj = v3.drewN (q + q2)) := hide (by rw [hwj, HW.out, World.drewN_drewN])
                    clear hwj c1 c2' s1 s2
                    go_wp2
                    go_roundw
                    case rel => exact ⟨k + 1, _, hlt2, by go_num, HWj⟩
                    case measure => simp [intOf]; omega
              · obtain rfl : k = G.ns.length := by omega
                go_wp2
                go_ret
                rw [HW.out]
                exact ⟨rfl, below_drewN HBF.out _⟩
end Go.Proofs.YtajcegofflmoeaaGreatDoor
