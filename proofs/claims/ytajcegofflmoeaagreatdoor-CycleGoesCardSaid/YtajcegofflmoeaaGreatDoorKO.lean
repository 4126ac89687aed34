/- Part of the proofs over this program: WalkGoes13. -/
import Derived.Test.YtajcegofflmoeaaGreatDoorKL
import Derived.Test.YtajcegofflmoeaaGreatDoorKM
namespace Go.Proofs.YtajcegofflmoeaaGreatDoor
set_option maxRecDepth 100000
open Go.RowKit

structure GoS (w wr : World) (gs : Nat) (a : Array Value) (s : List Nat) : Prop where
  s : UBZ wr gs s
  o : One w a wr
theorem GoS.drewN {w wr : World} {gs : Nat} {a : Array Value} {s : List Nat} (h : GoS w wr gs a s) (n : Nat) : GoS w (wr.drewN n) gs a s := ⟨h.s, h.o.drewN n⟩
def Gm.rcM (st : List Nat) (r m : Nat) : Nat := (List.range m).foldl (Gm.rc1 st) r
theorem Gm.rcM_next (st : List Nat) (r m : Nat) : Gm.rcM st r (m + 1) = if (Gm.rcM st r m).testBit m = true then Gm.rcM st r m ||| st.getD m 0 else Gm.rcM st r m := by
  unfold Gm.rcM; rw [List.range_succ, List.foldl_append]; rfl
theorem Gm.rc1_lt {st : List Nat} (h : Gm.U32 st) {r : Nat} (hr : r < 4294967296) (i : Nat) : Gm.rc1 st r i < 4294967296 := by
  unfold Gm.rc1
  split
  · exact S.or_lt hr (h i)
  · exact hr
theorem Gm.rcF_lt {st : List Nat} (h : Gm.U32 st) : ∀ (xs : List Nat) (r : Nat), r < 4294967296 → xs.foldl (Gm.rc1 st) r < 4294967296
  | [], _, hr => hr
  | x :: xs, _, hr => Gm.rcF_lt h xs _ (Gm.rc1_lt h hr x)
theorem Gm.rcN_lt {st : List Nat} (h : Gm.U32 st) (n : Nat) {r : Nat} (hr : r < 4294967296) : ∀ m, Gm.rcN st n m r < 4294967296
  | 0 => hr
  | m + 1 => Gm.rcF_lt h _ _ (Gm.rcN_lt h n hr m)
theorem Gm.goes_eq {G : Gm.Gr} (hr : Gm.right G = true) {k : Nat} (hk : k < G.ns.length) : (Gm.cyG G).testBit k = (Gm.rcN (Gm.stp G) G.ns.length G.ns.length ((Gm.stp G).getD k 0)).testBit k := by
  rw [Bool.eq_iff_iff, Gm.rcN_bit (Gm.right_ok.1 hr) hk]
  unfold Gm.cyG Gm.cyc
  rw [if_pos hr, Gm.mask_bit]
  exact ⟨fun h => h.2, fun h => ⟨hk, h⟩⟩

set_option maxHeartbeats 16000000 in
theorem cycleGoes_walk (v : Value) (G : Gm.Gr) (at0 : Nat) (w : World) (hg : RdGr w w.heap.size v G) (hf : Gm.Fit G) (hat : at0 < 256) (ht : Tab32 w) :
    Calls Tryz.prog 5 #[v, .int .u8 (at0 : Int)] w fun e w' => e = .returned (.bool true) ∧ Below w.heap.size w w' := by
  have HGG := hide (fun (x : World) (h : Below w.heap.size w x) => hg.below h (Nat.le_refl _))
  have HAL := hide (fun (x : World) (h : Below w.heap.size w x) => alive13_any x (ht.below h))
  have TG := hide (fun (x : World) (h : Below w.heap.size w x) => great9_any v G w.heap.size x (HGG.out x h) h.size)
  have TR := hide (fun (x : World) (h : Below w.heap.size w x) => rright_any v G w.heap.size x (HGG.out x h) hf h.size)
  have TS := hide (fun (q : Gm.right G = true) (x : World) (h : Below w.heap.size w x) => (show Calls _ _ _ _ (RowZn _ _) from (cSteps_any v G w.heap.size x (HGG.out x h) hf h.size).mono fun e w' k => k.1 q))
  have TC := hide (fun (x : World) (h : Below w.heap.size w x) => cCycles_any v G w.heap.size x (HGG.out x h) hf h.size)
  obtain ⟨A0, c0, A1, c1, A2, c2, rfl, _, ⟨hlN, hmN⟩, _⟩ := hg
  have HQ0 := hide (One.start w #[.slice A0 G.ts.length c0, .slice A1 G.ns.length c1, .slice A2 G.rs.length c2, .int .i64 G.st])
  have HXC := hide (fun (x : World) (h : One w #[.slice A0 G.ts.length c0, .slice A1 G.ns.length c1, .slice A2 G.rs.length c2, .int .i64 G.st] x) => And.intro (h.c 0 _ rfl) (And.intro (h.c 1 _ rfl) (And.intro (h.c 2 _ rfl) (h.c 3 _ rfl))))
  have HAT := hide hat
  clear hf ht hat
  go_enter Tryz.func5, Tryz.ntmps5
  go_wp2_with fail
  refine (HAL.out _ HQ0.out.below).mono ?_; rintro _ w1 ⟨rfl, hb1⟩
  have HQ1 := hide (HQ0.out.on hb1)
  obtain ⟨x0, x1, x2, x3⟩ := HXC.out w1 HQ1.out
  have lg : w.heap.size < w1.heap.size := HQ1.out.size
  clear hb1
  cases hgr : Gm.great G with
  | true =>
    rw [hgr] at TG
    go_wp2_with fail
    refine (TG.out _ HQ1.out.below).mono ?_; rintro _ w2 ⟨rfl, hb2⟩
    have HQ2 := hide (HQ1.out.on hb2)
    clear hb2
    go_wp2
    go_ret
    exact ⟨rfl, HQ2.out.below⟩
  | false =>
    rw [hgr] at TG
    cases hrt : Gm.right G with
    | false =>
      rw [hrt] at TR
      go_wp2_with fail
      refine (TG.out _ HQ1.out.below).mono ?_; rintro _ w2 ⟨rfl, hb2⟩
      have HQ2 := hide (HQ1.out.on hb2)
      clear x0 x1 x2 x3 lg hb2
      obtain ⟨x0, x1, x2, x3⟩ := HXC.out w2 HQ2.out
      have lg : w.heap.size < w2.heap.size := HQ2.out.size
      go_wp2_with fail
      refine (TR.out _ HQ2.out.below).mono ?_; rintro _ w3 ⟨rfl, hb3⟩
      have HQ3 := hide (HQ2.out.on hb3)
      clear hb3
      go_wp2
      go_ret
      exact ⟨rfl, HQ3.out.below⟩
    | true =>
      have TS := hide (TS.out hrt)
      have hok := Gm.right_ok.1 hrt
      have hn16 := (Gm.nons_iff G).1 hok.n
      have HN : Hid (1 ≤ G.ns.length ∧ G.ns.length ≤ 16) := hide (by omega)
      have HGE := hide (fun k (hk : k < G.ns.length) => Gm.goes_eq hrt hk)
      have HSU := hide (show Gm.U32 (Gm.stp G) from fun i => Gm.stp_u32 (by have := HN.out; omega) i)
      have HSL : Hid ((Gm.stp G).length = G.ns.length) := hide (Gm.stp_len G)
      rw [hrt] at TR
      unfold RowZn at TS
      rw [HSL.out] at TS
      have hlen : (G.ns.length : Int) ≤ 9223372036854775807 := by omega
      have HCL := hide (Gm.cyG_lt (G := G))
      generalize Gm.stp G = st at *
      generalize Gm.cyG G = cy at *
      clear hgr hrt hok hn16 hlN hmN
      go_wp2_with fail
      refine (TG.out _ HQ1.out.below).mono ?_; rintro _ w2 ⟨rfl, hb2⟩
      have HQ2 := hide (HQ1.out.on hb2)
      clear x0 x1 x2 x3 lg hb2 TG HQ1
      obtain ⟨x0, x1, x2, x3⟩ := HXC.out w2 HQ2.out
      have lg : w.heap.size < w2.heap.size := HQ2.out.size
      go_wp2_with fail
      refine (TR.out _ HQ2.out.below).mono ?_; rintro _ w3 ⟨rfl, hb3⟩
      have HQ3 := hide (HQ2.out.on hb3)
      clear x0 x1 x2 x3 lg hb3 TR HQ2
      obtain ⟨x0, x1, x2, x3⟩ := HXC.out w3 HQ3.out
      have lg : w.heap.size < w3.heap.size := HQ3.out.size
      go_wp2_with fail
      refine (TS.out _ HQ3.out.below).mono ?_; rintro _ w4 ⟨gs, rfl, _, hu, hb4⟩
      have HG4 : Hid (GoS w w4 gs #[.slice A0 G.ts.length c0, .slice A1 G.ns.length c1, .slice A2 G.rs.length c2, .int .i64 G.st] st) := hide ⟨hu, HQ3.out.on hb4⟩
      clear x0 x1 x2 x3 lg hb4 hu TS HQ3
      obtain ⟨x0, x1, x2, x3⟩ := HXC.out w4 HG4.out.o
      have lg : w.heap.size < w4.heap.size := HG4.out.o.size
      have hne : ((G.ns.length : Int) != (G.ns.length : Int)) = false := by simp
      obtain ⟨kk, hkk⟩ : ∃ kk : Nat, kk = at0 % G.ns.length := ⟨_, rfl⟩
      have hkl : kk < G.ns.length := by rw [hkk]; exact Nat.mod_lt _ (by have := HN.out; omega)
      have hkl2 : (kk : Int) < (G.ns.length : Int) := by omega
      have hcv : IntKind.i64.wrap (at0 : Int) = (at0 : Int) := IntWalk.i64_in _ (by have := HAT.out; omega)
      have hmd : Int.tmod (at0 : Int) (G.ns.length : Int) = (kk : Int) := by rw [Int.tmod_eq_emod_of_nonneg (by omega), hkk, Int.natCast_emod]
      have hnz : ((G.ns.length : Int) == 0) = false := beq_eq_false_iff_ne.2 (by have := HN.out; omega)
      have hnz2 : ¬ G.ns.length = 0 := by have := HN.out; omega
      have hwk : IntKind.i64.wrap (kk : Int) = (kk : Int) := IntWalk.i64_in _ (by have := HN.out; omega)
      have HKL := hide hkl
      clear hkk
      obtain ⟨r0, hr0⟩ : ∃ r, r = st.getD kk 0 := ⟨_, rfl⟩
      have HR0 : Hid (r0 < 4294967296) := hide (by rw [hr0]; exact HSU.out kk)
      have kc : w4.cell? ⟨gs, kk, none⟩ = some (.int .u32 (r0 : Int)) := by rw [hr0]; exact HG4.out.s.cell kk (by rw [HSL.out]; exact hkl)
      have hgl : gs < w4.heap.size := HG4.out.s.lt
      have HGE := hide (HGE.out kk hkl)
      rw [← hr0] at HGE
      clear hr0
      have hmd2 : (at0 : Int) % (G.ns.length : Int) = (kk : Int) := by rw [← hmd, Int.tmod_eq_emod_of_nonneg (by omega)]
      have hmd3 : at0 % G.ns.length = kk := by omega
      generalize G.ns.length = n at *
      have HRN := hide (fun m => Gm.rcN_lt HSU.out n HR0.out m)
      have HRS : Hid (∀ m, Gm.rcN st n (m + 1) r0 = Gm.rcM st (Gm.rcN st n m r0) n) := hide (fun _ => rfl)
      have HR00 : Hid (Gm.rcN st n 0 r0 = r0) := hide rfl
      go_wp2
      clear x0 x1 x2 x3 lg kc hgl hcv hmd hmd2 hmd3 hnz hnz2 hwk hne
      go_loopw [7, 8] (fun vr va wr => ∃ a : Nat, a ≤ n ∧ va = .int .i64 a ∧ vr = .int .u32 (Gm.rcN st n a r0 : Nat) ∧ Hid (GoS w wr gs #[.slice A0 G.ts.length c0, .slice A1 n c1, .slice A2 G.rs.length c2, .int .i64 G.st] st)) (fun _ va _ => n - (intOf va).toNat)
      case atStart => exact ⟨0, Nat.zero_le _, rfl, by rw [HR00.out], HG4⟩
      case round =>
        clear HG4
        obtain ⟨a, ha, rfl, rfl, HK⟩ := hrel
        obtain ⟨wo, hwo⟩ : ∃ wo : World, wo = wr := ⟨_, rfl⟩
        subst hwo
        by_cases hlt : a < n
        · have HRSa := hide (HRS.out a)
          have HRNa := hide (HRN.out a)
          generalize Gm.rcN st n a r0 = cur at *
          have HMN := hide (fun m => Gm.rcM_next st cur m)
          have HML := hide (fun m => (show Gm.rcM st cur m < 4294967296 from Gm.rcF_lt HSU.out _ _ HRNa.out))
          have HM0 : Hid (Gm.rcM st cur 0 = cur) := hide rfl
          go_wp2
          go_loopw [7, 9] (fun vr vi wr => ∃ i : Nat, i ≤ n ∧ vi = .int .i64 i ∧ vr = .int .u32 (Gm.rcM st cur i : Nat) ∧ Hid (GoS w wr gs #[.slice A0 G.ts.length c0, .slice A1 n c1, .slice A2 G.rs.length c2, .int .i64 G.st] st)) (fun _ vi _ => n - (intOf vi).toNat)
          case atStart => exact ⟨0, Nat.zero_le _, rfl, by rw [HM0.out], HK⟩
          case round =>
            clear HK
            obtain ⟨i, hi, rfl, rfl, HKi⟩ := hrel
            by_cases hlt2 : i < n
            · have HNx := hide (HMN.out i)
              have HLx := hide (HML.out i)
              have HHm := hide (srhas_any (Gm.rcM st cur i) (i : Int) wr HLx.out (by have := HN.out; omega))
              rw [S.has_nat _ (by have := HN.out; omega)] at HHm
              have hc := HKi.out.s.cell i (by rw [HSL.out]; exact hlt2)
              have HCK := hide (And.intro hc HKi.out.s.lt)
              have ho := hide (u32_or_nat (Gm.rcM st cur i) (st.getD i 0) HLx.out (HSU.out i))
              generalize Gm.rcM st cur i = s at *
              generalize st.getD i 0 = d at *
              generalize s.testBit i = b at *
              clear hc
              cases b
              · have HE := hide (HNx.out.trans (if_neg (by simp)))
                clear HNx HCK
                go_wp2_with fail
                refine HHm.out.mono ?_; rintro _ wk ⟨rfl, q, hwk⟩
                have HKn : Hid (GoS w wk gs #[.slice A0 G.ts.length c0, .slice A1 n c1, .slice A2 G.rs.length c2, .int .i64 G.st] st) := hide (by rw [hwk]; exact HKi.out.drewN q)
                clear hwk
                go_wp2
                go_roundw
                case rel => exact ⟨i + 1, hlt2, by go_num, by rw [HE.out], HKn⟩
                case measure => simp [intOf]; omega
              · have HE := hide (HNx.out.trans (if_pos rfl))
                clear HNx
                go_wp2_with fail
                refine HHm.out.mono ?_; rintro _ wk ⟨rfl, q, hwk⟩
                have HKn : Hid (GoS w wk gs #[.slice A0 G.ts.length c0, .slice A1 n c1, .slice A2 G.rs.length c2, .int .i64 G.st] st) := hide (by rw [hwk]; exact HKi.out.drewN q)
                have kc : wk.cell? ⟨gs, i, none⟩ = some (.int .u32 (d : Int)) := by rw [hwk]; exact HCK.out.1
                have kl : gs < wk.heap.size := by rw [hwk]; exact HCK.out.2
                clear hwk HCK
                go_wp2_with (rw [ho.out])
                go_roundw
                case rel => exact ⟨i + 1, hlt2, by go_num, by rw [HE.out], HKn⟩
                case measure => simp [intOf]; omega
            · obtain rfl : i = n := by omega
              rw [← HRSa.out]
              go_wp2
              go_roundw
              case rel => exact ⟨a + 1, hlt, by go_num, rfl, HKi⟩
              case measure => simp [intOf]; omega
        · obtain rfl : a = n := by omega
          obtain ⟨x0, x1, x2, x3⟩ := HXC.out wo HK.out.o
          have lg : w.heap.size < wo.heap.size := HK.out.o.size
          have HRL := hide (HRN.out a)
          have HH1 := hide (fun y => srhas_any cy (kk : Int) y HCL.out (by have := HKL.out; have := HN.out; omega))
          have HH2 := hide (fun y => srhas_any (Gm.rcN st a a r0) (kk : Int) y HRL.out (by have := HKL.out; have := HN.out; omega))
          rw [S.has_nat _ (by have := HKL.out; have := HN.out; omega)] at HH1 HH2
          rw [HGE.out] at HH1
          generalize Gm.rcN st a a r0 = rr at *
          generalize rr.testBit kk = b at *
          have hbb : (b == b) = true := by simp
          go_wp2_with fail
          refine (TC.out _ HK.out.o.below).mono ?_; rintro _ w5 ⟨rfl, hb⟩
          have HQ5 := hide (HK.out.o.on hb)
          clear hb x0 x1 x2 x3 lg
          go_wp2_with fail
          refine (HH1.out _).mono ?_; rintro _ w6 ⟨rfl, q6, hw6⟩
          have HQ6 : Hid (One w #[.slice A0 G.ts.length c0, .slice A1 a c1, .slice A2 G.rs.length c2, .int .i64 G.st] w6) := hide (by rw [hw6]; exact HQ5.out.drewN q6)
          clear hw6
          go_wp2_with fail
          refine (HH2.out _).mono ?_; rintro _ w7 ⟨rfl, q7, hw7⟩
          have HQ7 : Hid (One w #[.slice A0 G.ts.length c0, .slice A1 a c1, .slice A2 G.rs.length c2, .int .i64 G.st] w7) := hide (by rw [hw7]; exact HQ6.out.drewN q7)
          clear hw7
          go_wp2
          go_ret
          exact ⟨rfl, HQ7.out.below⟩
end Go.Proofs.YtajcegofflmoeaaGreatDoor
