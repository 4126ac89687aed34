/- Part of the proofs over this program: FirstQ, WalkParts12. -/
import Derived.Test.YthjohhcgegcmhaaGreatKL
namespace Go.Proofs.YthjohhcgegcmhaaGreat
set_option maxRecDepth 100000
namespace Gm
theorem nu_all {G : Gr} (hl : Lin G.ns.length G.rs) : ∀ l : List Int, l.all (mbN (gn false G.rs G.ns.length)) = true ↔ Nu G l
  | [] => ⟨fun _ => nu_nil G, fun _ => rfl⟩
  | z :: l => by
    rw [List.all_cons, Bool.and_eq_true, nu_all hl l, nu_cons]
    have : mbN (gn false G.rs G.ns.length) z = true ↔ z < 0 ∧ Gn false G.rs (-1 - z) := by
      unfold mbN
      rw [Bool.and_eq_true, decide_eq_true_eq]
      constructor
      · rintro ⟨h1, h2⟩; exact ⟨h1, (gn_get hl (by omega)).1 h2⟩
      · rintro ⟨h1, h2⟩; exact ⟨h1, (gn_get hl (by omega)).2 h2⟩
    rw [this]
theorem and_bit (a n : Nat) : (a &&& 2 ^ n ≠ 0) ↔ a.testBit n = true := by
  constructor
  · intro h
    cases hb : a.testBit n
    · refine absurd (Nat.eq_of_testBit_eq fun t => ?_) h
      rw [Nat.testBit_and, Nat.testBit_two_pow, Nat.zero_testBit]
      by_cases e : n = t
      · subst e; rw [hb]; rfl
      · rw [decide_eq_false e, Bool.and_false]
    · rfl
  · intro h e
    have := congrArg (fun z => z.testBit n) e
    simp only [Nat.testBit_and, Nat.testBit_two_pow, Nat.zero_testBit, h] at this
    simp at this
theorem ofG_lt {G : Gr} (l : List Int) {rest : Nat} (hr : rest < 4294967296) : ofG G l rest < 4294967296 := by
  unfold ofG
  split
  · rename_i h
    have hok := right_ok.1 h.1
    exact U32.ofN (fst_u32 hok) hr fun z hz => (has_in hok (List.all_eq_true.1 h.2 z hz)).1
  · decide
theorem parts_eq {G : Gr} (hr : right G = true) {l : List Int} (ha : l.all (has G) = true) (k rest : Nat) : ofG G (l.take k) (ofG G (l.drop k) rest) = ofG G l rest := by
  have h1 : (l.take k).all (has G) = true := List.all_eq_true.2 fun z hz => List.all_eq_true.1 ha z (List.mem_of_mem_take hz)
  have h2 : (l.drop k).all (has G) = true := List.all_eq_true.2 fun z hz => List.all_eq_true.1 ha z (List.mem_of_mem_drop hz)
  unfold ofG
  rw [if_pos ⟨hr, h1⟩, if_pos ⟨hr, h2⟩, if_pos ⟨hr, ha⟩, ← ofN_app, List.take_append_drop]
theorem parts_rest {G : Gr} (hr : right G = true) {l : List Int} (ha : l.all (has G) = true) : (ofG G l (2 ^ G.ts.length) &&& 2 ^ G.ts.length ≠ 0) ↔ l.all (mbN (gn false G.rs G.ns.length)) = true := by
  have hok := right_ok.1 hr
  rw [and_bit, nu_all hok.lin]
  unfold ofG
  rw [if_pos ⟨hr, ha⟩]
  exact ofN_rest hok fun z hz => (has_in hok (List.all_eq_true.1 ha z hz)).2.2
end Gm
end Go.Proofs.YthjohhcgegcmhaaGreat

namespace Go.Proofs.YthjohhcgegcmhaaGreat
set_option maxRecDepth 100000
open Go.RowKit

theorem sliceI_to (w : World) (A : Option Addr) (c n k : Nat) (hk : k ≤ c) : (Instr.sliceAt 32 (.slice A n c) none (some (.int .i64 k)) none).run Tryz.prog w = .ok (.slice A k c) w := by
  rw [run_sliceAt_slice _ _ _ _ _ _ (by kernel_rfl), run_slice_h _ _ _ _ _ (by kernel_rfl) .i64 (k : Int) (by omega) (by omega)]
  have hs : (sizeOf (Tryz.prog.elem 32)).run Tryz.prog w = .ok 1 w := by kernel_rfl
  rw [hs]
  have e : ∀ A : Option Addr, A.map (fun x => x.add 0) = A := fun A => by
    cases A with
    | none => rfl
    | some x => simp [Addr.add]
  simp [Result.andThen, sliced, e]
set_option maxHeartbeats 16000000 in
theorem firstParts_walk (v : Value) (G : Gm.Gr) (A : Option Addr) (c : Nat) (l : List Int) (at0 : Nat) (w : World) (hg : RdGr w w.heap.size v G) (hf : Gm.Fit G) (hr : RdI w w.heap.size A l) (hin : ∀ z ∈ l, Gm.In z) (hlc : l.length ≤ c) (hcm : c ≤ 9223372036854775807) (hat : at0 < 256) :
    Calls Tryz.prog 5 #[v, .slice A l.length c, .int .u8 at0] w fun e w' => e = .returned (.bool true) ∧ Below w.heap.size w w' := by
  have HGG := hide (fun (x : World) (h : Below w.heap.size w x) => hg.below h (Nat.le_refl _))
  have HAL := hide (fun (x : World) => alive12_any x)
  have TG := hide (fun (x : World) (h : Below w.heap.size w x) => great9_any v G w.heap.size x (HGG.out x h) h.size)
  have TR := hide (fun (x : World) (h : Below w.heap.size w x) => rright_any v G w.heap.size x (HGG.out x h) hf h.size)
  have TN := hide (fun (q : Gm.right G = true) (x : World) (h : Below w.heap.size w x) => (show Calls _ _ _ _ (RowT _ _) from (rnullable_any v G w.heap.size x (HGG.out x h) hf h.size).mono fun e w' k => k.1 q))
  have TH := hide (fun (z : Int) (hz : Gm.In z) (x : World) (h : Below w.heap.size w x) => rhas_any9 v G w.heap.size z hz x (HGG.out x h))
  have TO := hide (fun (m : List Int) (A' : Option Addr) (c' rest : Nat) (hr' : RdI w w.heap.size A' m) (hi : ∀ z ∈ m, Gm.In z) (hm : m.length ≤ 9223372036854775807) (hre : rest < 4294967296) (x : World) (h : Below w.heap.size w x) => of_any v G m rest A' c' w.heap.size x (HGG.out x h) hf h.size (hr'.below h (Nat.le_refl _)) hi hm hre)
  have HR := hide hr
  have HIN := hide hin
  have HLC := hide (And.intro hlc hcm)
  have hlen : (l.length : Int) ≤ 9223372036854775807 := by omega
  have HAT := hide hat
  obtain ⟨A0, c0, A1, c1, A2, c2, rfl, hlT, _⟩ := hg
  have HQ0 := hide (One.start w #[.slice A0 G.ts.length c0, .slice A1 G.ns.length c1, .slice A2 G.rs.length c2, .int .i64 G.st])
  have HXC := hide (fun (x : World) (h : One w #[.slice A0 G.ts.length c0, .slice A1 G.ns.length c1, .slice A2 G.rs.length c2, .int .i64 G.st] x) => And.intro (h.c 0 _ rfl) (And.intro (h.c 1 _ rfl) (And.intro (h.c 2 _ rfl) (h.c 3 _ rfl))))
  clear hf hr hin hlc hcm hat hlT
  go_enter Tryz.func5, Tryz.ntmps5
  go_wp2_with fail
  refine (HAL.out _).mono ?_; rintro _ w1 ⟨rfl, hb1⟩
  have HQ1 := hide (HQ0.out.on hb1)
  obtain ⟨x0, x1, x2, x3⟩ := HXC.out w1 HQ1.out
  clear hb1
  cases hgr : Gm.great G with
  | true =>
    rw [hgr] at TG
    go_wp2_with fail
    refine (TG.out _ HQ1.out.below).mono ?_; rintro _ w2 ⟨rfl, hb2⟩
    have HQ2 := hide (HQ1.out.on hb2)
    clear hb2
    go_wp2
    go_ret
    exact ⟨rfl, HQ2.out.below⟩
  | false =>
    rw [hgr] at TG
    cases hrt : Gm.right G with
    | false =>
      rw [hrt] at TR
      go_wp2_with fail
      refine (TG.out _ HQ1.out.below).mono ?_; rintro _ w2 ⟨rfl, hb2⟩
      have HQ2 := hide (HQ1.out.on hb2)
      clear x0 x1 x2 x3 hb2
      obtain ⟨x0, x1, x2, x3⟩ := HXC.out w2 HQ2.out
      go_wp2_with fail
      refine (TR.out _ HQ2.out.below).mono ?_; rintro _ w3 ⟨rfl, hb3⟩
      have HQ3 := hide (HQ2.out.on hb3)
      clear hb3
      go_wp2
      go_ret
      exact ⟨rfl, HQ3.out.below⟩
    | true =>
      have TN := hide (TN.out hrt)
      have HRT := hide hrt
      rw [hrt] at TR
      by_cases h50 : (50 : Int) < (l.length : Int)
      · have d50 : decide ((50 : Int) < (l.length : Int)) = true := decide_eq_true h50
        clear TN
        go_wp2_with fail
        refine (TG.out _ HQ1.out.below).mono ?_; rintro _ w2 ⟨rfl, hb2⟩
        have HQ2 := hide (HQ1.out.on hb2)
        clear x0 x1 x2 x3 hb2
        obtain ⟨x0, x1, x2, x3⟩ := HXC.out w2 HQ2.out
        go_wp2_with fail
        refine (TR.out _ HQ2.out.below).mono ?_; rintro _ w3 ⟨rfl, hb3⟩
        have HQ3 := hide (HQ2.out.on hb3)
        clear hb3
        go_wp2
        go_ret
        exact ⟨rfl, HQ3.out.below⟩
      · have d50 : decide ((50 : Int) < (l.length : Int)) = false := decide_eq_false h50
        have HOK := hide (Gm.right_ok.1 hrt)
        unfold RowT at TN
        rw [Gm.gn_len] at TN
        have HPQ := hide (fun ha k rest => Gm.parts_eq (G := G) hrt (l := l) ha k rest)
        have HPR := hide (fun ha => Gm.parts_rest (G := G) hrt (l := l) ha)
        have HTL : Hid ((Gm.gn false G.rs G.ns.length).length = G.ns.length) := hide (Gm.gn_len _ _ _)
        generalize Gm.gn false G.rs G.ns.length = T at *
        have H50 := hide (show l.length ≤ 50 by omega)
        clear hgr hrt h50
        go_wp2_with fail
        refine (TG.out _ HQ1.out.below).mono ?_; rintro _ w2 ⟨rfl, hb2⟩
        have HQ2 := hide (HQ1.out.on hb2)
        clear x0 x1 x2 x3 hb2 TG
        obtain ⟨x0, x1, x2, x3⟩ := HXC.out w2 HQ2.out
        go_wp2_with fail
        refine (TR.out _ HQ2.out.below).mono ?_; rintro _ w3 ⟨rfl, hb3⟩
        have HQ3 := hide (HQ2.out.on hb3)
        clear x0 x1 x2 x3 hb3 TR
        obtain ⟨x0, x1, x2, x3⟩ := HXC.out w3 HQ3.out
        have ld : w.heap.size < w3.heap.size := HQ3.out.size
        go_wp2_with fail
        refine (TN.out w3 HQ3.out.below).mono ?_; rintro _ w4 ⟨g1, rfl, hg1, hu1, hb4⟩
        have HQ4 := hide (HQ3.out.on hb4)
        have HU4 := hide hu1
        clear x0 x1 x2 x3 hb4 hu1 hg1 TN ld d50
        go_wp2
        go_loopw [9, 8] (fun vi va wr => ∃ k : Nat, k ≤ l.length ∧ vi = .int .i64 k ∧ va = .bool ((l.take k).all (Gm.mbN T)) ∧ Hid ((l.take k).all (Gm.has G) = true) ∧ Hid (UBO wr g1 T) ∧ Hid (One w #[.slice A0 G.ts.length c0, .slice A1 G.ns.length c1, .slice A2 G.rs.length c2, .int .i64 G.st] wr)) (fun vi _ _ => l.length - (intOf vi).toNat)
        case atStart => exact ⟨0, Nat.zero_le _, rfl, rfl, hide rfl, HU4, HQ4⟩
        case round =>
          clear HU4 HQ4
          obtain ⟨k, hk, rfl, rfl, HA, HU, HW⟩ := hrel
          have hd : w.heap.size < wr.heap.size := HW.out.size
          by_cases hlt : k < l.length
          · obtain ⟨g, o, rfl, hgb, hc⟩ := (HR.out.below HW.out.below (Nat.le_refl _)) (by omega)
            have kc := hc k hlt
            rw [L.gd_lt hlt] at kc
            have hgw : g < wr.heap.size := by have := HW.out.below.size; omega
            have q0 := fun y : Calm.On wr.heap.size wr => (y.2.cell (p := ⟨w.heap.size, 0, none⟩) hd).trans (HW.out.c 0 _ rfl)
            have q1 := fun y : Calm.On wr.heap.size wr => (y.2.cell (p := ⟨w.heap.size, 1, none⟩) hd).trans (HW.out.c 1 _ rfl)
            have q2 := fun y : Calm.On wr.heap.size wr => (y.2.cell (p := ⟨w.heap.size, 2, none⟩) hd).trans (HW.out.c 2 _ rfl)
            have q3 := fun y : Calm.On wr.heap.size wr => (y.2.cell (p := ⟨w.heap.size, 3, none⟩) hd).trans (HW.out.c 3 _ rfl)
            have k0 := fun y : Calm.On wr.heap.size wr => (y.2.cell (p := ⟨g, o + k, none⟩) hgw).trans kc
            have HKC := hide kc
            have hzi := HIN.out _ (List.getElem_mem hlt)
            have HHz := hide (fun x h => TH.out l[k] (HIN.out _ (List.getElem_mem hlt)) x h)
            have HNA := hide (all_take (p := Gm.has G) hlt)
            have HNM := hide (all_take (p := Gm.mbN T) hlt)
            have HSB : Hid (∀ z, Below wr.heap.size wr z → ∃ q : Calm.On wr.heap.size wr, z = q.1) := hide (fun z hz => ⟨⟨z, hz⟩, rfl⟩)
            have HD : Hid (Below wr.heap.size wr wr.drew) := hide (below_drewN (Below.refl _ _) 1)
            clear hc kc
            generalize l[k] = z at *
            unfold Gm.In at hzi
            cases hz : Gm.has G z
            · rw [hz] at HHz
              clear hz HNA HNM hzi
              go_upto_region 10 with fail
              refine CalmN.region_tree (fun x => ∃ y : Calm.On wr.heap.size wr, x = y.1) (.one [0, 1, 2, 3, 4] 5 (.fin [6])) (by kernel_rfl) (by kernel_rfl) (fun _ _ d _ _ h => by cases d <;> exact h) ⟨⟨wr.drew, HD.out⟩, rfl⟩ ?_
              simp only [CalmN.wpT, CalmN.wpSt, CalmN.pickOps, List.getElem?_toArray, List.getElem?_cons_zero, List.getElem?_cons_succ]
              repeat (go_big_quiet_step (fail))
              refine wpQuiet_nil ?_
              generalize wr.drew = wd at *
              clear q0 q1 q2 q3 k0
              intro KK hKK
              rw [if_pos (by rfl)]
              go_wp2_with fail
              refine (HHz.out wd (HW.out.on HD.out).below).mono ?_; rintro _ we ⟨rfl, hb⟩
              have HE2 := hide (HD.out.trans (hb.mono HD.out.size))
              clear hb
              go_wp2_with fail
              refine hKK _ _ (HSB.out _ HE2.out) (fun x => ∃ y : Calm.On wr.heap.size wr, x = y.1) (fun _ h => h) (HSB.out _ HE2.out) ?_
              clear hKK
              repeat (go_big_quiet_step (fail))
              refine wpQuiet_nil ?_
              go_wp2
              go_ret
              exact ⟨rfl, (HW.out.on HE2.out).below⟩
            · have hin := Gm.has_in HOK.out hz
              rw [hz] at HHz HNA
              have HX := hide (HNA.out.trans (by rw [HA.out]))
              obtain ⟨bk, hbk⟩ : ∃ b, b = (l.take k).all (Gm.mbN T) := ⟨_, rfl⟩
              rw [← hbk] at HNM ⊢
              clear hz HNA hbk
              go_upto_region 10 with fail
              refine CalmN.region_tree (fun x => ∃ y : Calm.On wr.heap.size wr, x = y.1) (.one [0, 1, 2, 3, 4] 5 (.fin [6])) (by kernel_rfl) (by kernel_rfl) (fun _ _ d _ _ h => by cases d <;> exact h) ⟨⟨wr.drew, HD.out⟩, rfl⟩ ?_
              simp only [CalmN.wpT, CalmN.wpSt, CalmN.pickOps, List.getElem?_toArray, List.getElem?_cons_zero, List.getElem?_cons_succ]
              repeat (go_big_quiet_step (fail))
              refine wpQuiet_nil ?_
              generalize wr.drew = wd at *
              clear q0 q1 q2 q3 k0
              intro KK hKK
              rw [if_pos (by rfl)]
              go_wp2_with fail
              refine (HHz.out wd (HW.out.on HD.out).below).mono ?_; rintro _ we ⟨rfl, hb⟩
              have HE2 := hide (HD.out.trans (hb.mono HD.out.size))
              clear hb
              go_wp2_with fail
              refine hKK _ _ (HSB.out _ HE2.out) (fun x => ∃ y : Calm.On wr.heap.size wr, x = y.1) (fun _ h => h) (HSB.out _ HE2.out) ?_
              clear hKK
              repeat (go_big_quiet_step (fail))
              refine wpQuiet_nil ?_
              have kz := (HE2.out.cell (p := ⟨g, o + k, none⟩) hgw).trans HKC.out
              have lg : g < we.heap.size := Nat.lt_of_lt_of_le hgw HE2.out.size
              have HU2 := hide (HU.out.below HE2.out HU.out.lt)
              have HW2 := hide (HW.out.on HE2.out)
              cases bk
              · have HN2 := hide (HNM.out.trans (Bool.false_and _))
                clear HNM hzi hin
                go_wp2
                go_roundw
                case rel => exact ⟨k + 1, hlt, by go_num, by rw [HN2.out], HX, HU2, HW2⟩
                case measure => simp [intOf]; omega
              · rw [Bool.true_and] at HNM
                by_cases h0 : z < 0
                · have hzn := hin.2.1 h0
                  obtain ⟨m, hm⟩ : ∃ m : Nat, -1 - z = (m : Int) := ⟨(-1 - z).toNat, by omega⟩
                  rw [hm] at hzn
                  have hm2 : m < T.length := by rw [HTL.out]; omega
                  have km := HU2.out.cell m hm2
                  have lu := HU2.out.lt
                  have hm3 : (m : Int) < (G.ns.length : Int) := hzn
                  have d0 : decide (z < 0) = true := decide_eq_true h0
                  have dw : IntKind.i64.wrap (-1 - z) = (m : Int) := by rw [IntWalk.i64_in _ (by omega)]; exact hm
                  have HN2 := hide (HNM.out.trans (show Gm.mbN T z = T.getD m false by unfold Gm.mbN; rw [d0, hm]; simp))
                  generalize T.getD m false = bm at *
                  clear HNM hzi hin hzn hm h0
                  cases bm
                  all_goals
                    go_wp2
                    go_roundw
                    case rel => exact ⟨k + 1, hlt, by go_num, by rw [HN2.out], HX, HU2, HW2⟩
                    case measure => simp [intOf]; omega
                · have d0 : decide (z < 0) = false := decide_eq_false h0
                  have HN2 := hide (HNM.out.trans (show Gm.mbN T z = false by unfold Gm.mbN; rw [d0]; rfl))
                  clear HNM hzi hin h0
                  go_wp2
                  go_roundw
                  case rel => exact ⟨k + 1, hlt, by go_num, by rw [HN2.out], HX, HU2, HW2⟩
                  case measure => simp [intOf]; omega
          · obtain rfl : k = l.length := by omega
            rw [List.take_length] at HA ⊢
            obtain ⟨x0, x1, x2, x3⟩ := HXC.out wr HW.out
            have HPQ := hide (HPQ.out HA.out)
            have HPR := hide (HPR.out HA.out)
            obtain ⟨ba, hba⟩ : ∃ b, b = l.all (Gm.mbN T) := ⟨_, rfl⟩
            rw [← hba] at HPR ⊢
            clear hba
            go_upto_region 13 with fail
            obtain ⟨kk, hkk⟩ : ∃ kk : Nat, kk = at0 % (l.length + 1) := ⟨_, rfl⟩
            have HKL : Hid (kk ≤ l.length) := hide (by rw [hkk]; have := Nat.mod_lt at0 (show 0 < l.length + 1 by omega); omega)
            obtain ⟨nl, hnl⟩ : ∃ nl : Nat, nl = l.length + 1 := ⟨_, rfl⟩
            have hw1 : IntKind.i64.wrap ((l.length : Int) + 1) = (nl : Int) := by rw [IntWalk.i64_in _ (by have := H50.out; omega), hnl]; omega
            have hcv : IntKind.i64.wrap (at0 : Int) = (at0 : Int) := IntWalk.i64_in _ (by have := HAT.out; omega)
            have hmd : Int.tmod (at0 : Int) (nl : Int) = (kk : Int) := by rw [Int.tmod_eq_emod_of_nonneg (by omega), hkk, hnl, Int.natCast_emod]
            have hnz : ((nl : Int) == 0) = false := beq_eq_false_iff_ne.2 (by omega)
            have hnz2 : ¬ nl = 0 := by omega
            have hwk : IntKind.i64.wrap (kk : Int) = (kk : Int) := IntWalk.i64_in _ (by have := HKL.out; have := H50.out; omega)
            clear hkk hnl
            go_upto_region 14 with fail
            go_upto_region 15 with fail
            have h24 := ((Gm.terms_iff G.ts).1 HOK.out.t).1
            have he : (2 : Int) ^ min G.ts.length 32 % 4294967296 = ((2 ^ G.ts.length : Nat) : Int) := by
              have h1 := pow_bit (G.ts.length : Int) (by omega)
              rw [S.bit_nat (by omega)] at h1
              simpa using h1
            rw [he]
            have hre : 2 ^ G.ts.length < 4294967296 := by
              have := Nat.pow_le_pow_right (n := 2) (by decide) h24
              omega
            have HW1 := hide (TO.out l A c (2 ^ G.ts.length) HR.out HIN.out (by have := H50.out; omega) hre)
            have HDR := hide (TO.out (l.drop kk) (dropA A c kk) (c - kk) (2 ^ G.ts.length) (HR.out.dropA HLC.out.1 kk) (fun z hz => HIN.out z (List.mem_of_mem_drop hz)) (by rw [List.length_drop]; have := H50.out; omega) hre)
            have hr2 := Gm.ofG_lt (G := G) (l.drop kk) hre
            have HTA := hide (TO.out (l.take kk) A c (Gm.ofG G (l.drop kk) (2 ^ G.ts.length)) (HR.out.take kk) (fun z hz => HIN.out z (List.mem_of_mem_take hz)) (by rw [List.length_take]; have := H50.out; omega) hr2)
            rw [HPQ.out kk (2 ^ G.ts.length), List.length_take, Nat.min_eq_left HKL.out] at HTA
            rw [List.length_drop] at HDR
            have hwl := Gm.ofG_lt (G := G) l hre
            have han := u32_and_nat (Gm.ofG G l (2 ^ G.ts.length)) (2 ^ G.ts.length) hwl hre
            have hba : (((Gm.ofG G l (2 ^ G.ts.length) &&& 2 ^ G.ts.length : Nat) : Int) != 0) = ba := by
              have := HPR.out
              rw [Bool.eq_iff_iff, bne_iff_ne, ← this]
              omega
            have S1 := fun w => sliceI_to w A c l.length kk (by have := HLC.out.1; have := HKL.out; omega)
            have S2 := fun w => sliceI_from w A c l.length kk HKL.out
            generalize Gm.ofG G (l.drop kk) (2 ^ G.ts.length) = r2 at *
            generalize Gm.ofG G l (2 ^ G.ts.length) &&& 2 ^ G.ts.length = an at *
            generalize Gm.ofG G l (2 ^ G.ts.length) = rw0 at *
            generalize 2 ^ G.ts.length = rst at *
            generalize dropA A c kk = D at *
            generalize l.length - kk = nd at *
            generalize c - kk = cd at *
            clear h24 he hre hr2 hwl HPQ HPR hw1 hcv hmd hnz hnz2 hwk TO
            go_upto_region 16 with fail
            refine (HW1.out wr HW.out.below).mono ?_; rintro _ w5 ⟨rfl, hb5⟩
            have HQ5 := hide (HW.out.on hb5)
            clear hb5 x0 x1 x2 x3
            go_upto_region 16 with fail
            have q0 := fun y : Calm.On w5.heap.size w5 => (HXC.out y.1 (HQ5.out.on y.2)).1
            have q1 := fun y : Calm.On w5.heap.size w5 => (HXC.out y.1 (HQ5.out.on y.2)).2.1
            have q2 := fun y : Calm.On w5.heap.size w5 => (HXC.out y.1 (HQ5.out.on y.2)).2.2.1
            have q3 := fun y : Calm.On w5.heap.size w5 => (HXC.out y.1 (HQ5.out.on y.2)).2.2.2
            have HD5 : Hid (Below w5.heap.size w5 w5.drew) := hide (below_drewN (Below.refl _ _) 1)
            refine CalmN.region_tree (fun x => ∃ y : Calm.On w5.heap.size w5, x = y.1) (.one [0, 1, 2, 3, 4, 5, 6, 7, 8, 9] 10 (.one [] 11 (.fin [12, 13, 14, 15, 16, 17, 18, 19, 20, 21]))) (by kernel_rfl) (by kernel_rfl) (fun _ _ d _ _ h => by cases d <;> exact h) ⟨⟨w5.drew, HD5.out⟩, rfl⟩ ?_
            simp only [CalmN.wpT, CalmN.wpSt, CalmN.pickOps, List.getElem?_toArray, List.getElem?_cons_zero, List.getElem?_cons_succ]
            repeat (go_big_quiet_step (fail))
            refine wpQuiet_nil ?_
            generalize w5.drew = wd at *
            intro KK hKK
            rw [if_pos (by rfl)]
            go_wp2_with fail
            refine (HDR.out _ (HQ5.out.on HD5.out).below).mono ?_; rintro _ v1 ⟨rfl, hb⟩
            have HB1 := hide (HD5.out.trans (hb.mono HD5.out.size))
            clear hb
            go_wp2_with fail
            refine hKK _ _ ⟨⟨_, HB1.out⟩, rfl⟩ (fun x => ∃ y : Calm.On w5.heap.size w5, x = y.1) (fun _ h => h) ⟨⟨_, HB1.out⟩, rfl⟩ ?_
            refine wpQuiet_nil ?_
            intro KK hKK
            rw [if_pos (by rfl)]
            go_wp2_with fail
            refine (HTA.out _ (HQ5.out.on HB1.out).below).mono ?_; rintro _ v2 ⟨rfl, hb⟩
            have HB2 := hide (HB1.out.trans (hb.mono HB1.out.size))
            clear hb
            go_wp2_with fail
            refine hKK _ _ ⟨⟨_, HB2.out⟩, rfl⟩ (fun x => ∃ y : Calm.On w5.heap.size w5, x = y.1) (fun _ h => h) ⟨⟨_, HB2.out⟩, rfl⟩ ?_
            have hbe : ((rw0 : Int) == (rw0 : Int)) = true := by simp
            have hbb : (ba == ba) = true := by simp
            repeat (go_big_quiet_step (fail))
            refine wpQuiet_nil ?_
            clear q0 q1 q2 q3
            go_wp2
            go_ret
            exact ⟨rfl, (HQ5.out.on HB2.out).below⟩
end Go.Proofs.YthjohhcgegcmhaaGreat
