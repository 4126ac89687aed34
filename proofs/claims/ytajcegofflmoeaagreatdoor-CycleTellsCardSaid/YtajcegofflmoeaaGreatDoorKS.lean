/- Part of the proofs over this program: CyRef1, CyRef2, CyRef3, CyRef4, CyRef5, WalkTells13. -/
import Derived.Test.YtajcegofflmoeaaGreatDoorKL
import Derived.Test.YtajcegofflmoeaaGreatDoorKM
import Derived.Test.YtajcegofflmoeaaGreatDoorKN
namespace Go.Proofs.YtajcegofflmoeaaGreatDoor
set_option maxRecDepth 100000
open Go.RowKit

set_option maxHeartbeats 2000000 in
theorem ralone_any (l : List Int) (k : Nat) (nu : List Bool) (A A2 : Option Addr) (c c2 B : Nat) (w : World) (hr : RdI w B A l) (hp : RdO w B A2 nu) (hin : ∀ z ∈ l, Gm.In z) (hs : ∀ z ∈ l, z < 0 → -1 - z < (nu.length : Int)) (hl : l.length ≤ 1000000) (hk : k ≤ 1000000) :
    Calls Tryz.prog 33 #[.slice A l.length c, .int .i64 (k : Int), .slice A2 nu.length c2] w fun e w' => e = .returned (.bool (Gm.allB false nu (l.take k) && Gm.allB false nu (l.drop (k + 1)))) ∧ w' = w := by
  have HR := hide hr
  have HP := hide hp
  have HIN := hide hin
  have HS := hide hs
  have hlen : (l.length : Int) ≤ 9223372036854775807 := by omega
  have hkk : (k : Int) ≤ 9223372036854775807 := by omega
  have HAL := hide (fun (h : Gm.AlX nu l k l.length) => h.all)
  have HNO := hide (fun i (hi : i < l.length) (hne : i ≠ k) h => Gm.AlX.not (nu := nu) hi hne h)
  generalize (Gm.allB false nu (l.take k) && Gm.allB false nu (l.drop (k + 1))) = ans at *
  clear hr hp hin hs hl hk
  go_enter Tryz.func33, Tryz.ntmps33
  go_wp2
  go_loop [7] (fun vi => ∃ i : Nat, i ≤ l.length ∧ vi = .int .i64 i ∧ Hid (Gm.AlX nu l k i)) (fun vi => l.length - (intOf vi).toNat)
  case atStart => exact ⟨0, Nat.zero_le _, rfl, hide (fun _ _ h => absurd h (by omega))⟩
  case round =>
    obtain ⟨i, hi, rfl, HX⟩ := hrel
    by_cases hlt : i < l.length
    · obtain ⟨g, o, rfl, _, hc⟩ := HR.out (by omega)
      have k0 := hc i hlt
      rw [L.gd_lt hlt] at k0
      have hzi := HIN.out _ (List.getElem_mem hlt)
      have hzs := HS.out _ (List.getElem_mem hlt)
      have HN := hide (HNO.out i hlt)
      have HNX := hide (HX.out.next hlt)
      clear hc
      by_cases hik : i = k
      · have HNX := hide (HNX.out fun h => absurd hik h)
        have hb : ((i : Int) != (k : Int)) = false := by rw [hik]; simp
        clear hik HN hzi hzs
        go_wp2
        go_round
        case rel => exact ⟨i + 1, hlt, by go_num, HNX⟩
        case measure => simp [intOf]; omega
      · have hb : ((i : Int) != (k : Int)) = true := by rw [bne_iff_ne]; omega
        have HN := hide (HN.out hik)
        generalize l[i] = z at *
        unfold Gm.In at hzi
        by_cases h0 : z < 0
        · obtain ⟨m, he⟩ : ∃ m : Nat, -1 - z = (m : Int) := ⟨(-1 - z).toNat, by omega⟩
          have hm := hzs h0
          rw [he] at HN HNX hm
          have hm2 : m < nu.length := by omega
          obtain ⟨g2, o2, rfl, _, hc2⟩ := HP.out (by omega)
          have k2 := hc2 m hm2
          have h0' : ¬ z ≥ 0 := by omega
          simp only [Int.toNat_natCast] at HN HNX
          generalize nu.getD m false = b at *
          have hsub : IntKind.i64.wrap (-1 - z) = (m : Int) := by rw [IntWalk.i64_in _ (by omega), he]
          have hd : decide (0 ≤ z) = false := decide_eq_false (by omega)
          clear hc2 he hzi hzs hik
          cases b
          · have HE := hide (HN.out (by simp))
            clear HN HNX
            go_wp2
            go_ret
            exact ⟨ret_bool HE.out.symm, rfl⟩
          · have HE := hide (HNX.out fun _ => ⟨h0, rfl⟩)
            clear HN HNX
            go_wp2
            go_round
            case rel => exact ⟨i + 1, hlt, by go_num, HE⟩
            case measure => simp [intOf]; omega
        · have HE := hide (HN.out (fun h => h0 h.1))
          have hd : decide (0 ≤ z) = true := decide_eq_true (by omega)
          clear hzs hzi HN HNX hik
          go_wp2
          go_ret
          exact ⟨ret_bool HE.out.symm, rfl⟩
    · obtain rfl : i = l.length := by omega
      have HE := hide (HAL.out HX.out)
      go_wp2
      go_ret
      exact ⟨ret_bool HE.out.symm, rfl⟩

theorem Gm.allB_take {pr : List Bool} {l : List Int} {k : Nat} (h : k < l.length) : Gm.allB true pr (l.take (k + 1)) = (Gm.allB true pr (l.take k) && (if 0 ≤ l[k] then true else pr.getD (-1 - l[k]).toNat false)) := by
  unfold Gm.allB
  rw [List.take_succ_eq_append_getElem h, List.all_append]; simp
theorem Gm.allB_not {pr : List Bool} {l : List Int} {k : Nat} (h : k < l.length) (hz : l[k] < 0) (hp : pr.getD (-1 - l[k]).toNat false = false) : Gm.allB true pr l = false := by
  unfold Gm.allB
  rw [List.all_eq_false]
  exact ⟨_, List.getElem_mem h, by rw [if_neg (by omega), hp]; simp⟩
set_option maxHeartbeats 2000000 in
theorem rmade_any (l : List Int) (pr : List Bool) (A A2 : Option Addr) (c c2 B : Nat) (w : World) (hr : RdI w B A l) (hp : RdO w B A2 pr) (hin : ∀ z ∈ l, Gm.In z) (hs : ∀ z ∈ l, z < 0 → -1 - z < (pr.length : Int)) (hl : l.length ≤ 1000000) :
    Calls Tryz.prog 34 #[.slice A l.length c, .slice A2 pr.length c2] w fun e w' => e = .returned (.bool (Gm.allB true pr l)) ∧ w' = w := by
  have HR := hide hr
  have HP := hide hp
  have HIN := hide hin
  have HS := hide hs
  have hlen : (l.length : Int) ≤ 9223372036854775807 := by omega
  clear hr hp hin hs hl
  go_enter Tryz.func34, Tryz.ntmps34
  go_wp2
  go_loop [5] (fun vi => ∃ i : Nat, i ≤ l.length ∧ vi = .int .i64 i ∧ Hid (Gm.allB true pr (l.take i) = true)) (fun vi => l.length - (intOf vi).toNat)
  case atStart => exact ⟨0, Nat.zero_le _, rfl, hide (by simp [Gm.allB])⟩
  case round =>
    obtain ⟨i, hi, rfl, HX⟩ := hrel
    by_cases hlt : i < l.length
    · obtain ⟨g, o, rfl, _, hc⟩ := HR.out (by omega)
      have k0 := hc i hlt
      rw [L.gd_lt hlt] at k0
      have hzi := HIN.out _ (List.getElem_mem hlt)
      have hzs := HS.out _ (List.getElem_mem hlt)
      have HN := hide (Gm.allB_not (pr := pr) hlt)
      have HNX := hide ((Gm.allB_take (pr := pr) hlt).trans (by rw [HX.out, Bool.true_and]))
      clear hc
      generalize l[i] = z at *
      unfold Gm.In at hzi
      by_cases h0 : z < 0
      · obtain ⟨m, he⟩ : ∃ m : Nat, -1 - z = (m : Int) := ⟨(-1 - z).toNat, by omega⟩
        have hm := hzs h0
        have HNX := hide (HNX.out.trans (if_neg (by omega)))
        have HN := hide (HN.out h0)
        rw [he] at HN HNX hm
        have hm2 : m < pr.length := by omega
        obtain ⟨g2, o2, rfl, _, hc2⟩ := HP.out (by omega)
        have k2 := hc2 m hm2
        simp only [Int.toNat_natCast] at HN HNX
        generalize pr.getD m false = b at *
        have hsub : IntKind.i64.wrap (-1 - z) = (m : Int) := by rw [IntWalk.i64_in _ (by omega), he]
        clear hc2 he hzi hzs
        cases b
        · have HE := hide (HN.out rfl)
          clear HN HNX
          go_wp2
          go_ret
          exact ⟨ret_bool HE.out.symm, rfl⟩
        · clear HN
          go_wp2
          go_round
          case rel => exact ⟨i + 1, hlt, by go_num, HNX⟩
          case measure => simp [intOf]; omega
      · have HNX := hide (HNX.out.trans (if_pos (by omega)))
        clear hzs hzi HN
        go_wp2
        go_round
        case rel => exact ⟨i + 1, hlt, by go_num, HNX⟩
        case measure => simp [intOf]; omega
    · obtain rfl : i = l.length := by omega
      rw [List.take_length] at HX
      go_wp2
      go_ret
      exact ⟨ret_bool HX.out.symm, rfl⟩
end Go.Proofs.YtajcegofflmoeaaGreatDoor

namespace Go.Proofs.YtajcegofflmoeaaGreatDoor
set_option maxRecDepth 100000
open Go.RowKit

structure StQ (w wr : World) (g1 g3 gs : Nat) (a : Array Value) (nu pr : List Bool) (s : List Nat) : Prop where
  n : UBO wr g1 nu
  p : UBO wr g3 pr
  s : UBZ wr gs s
  o : One w a wr
theorem StQ.below {w wr w' : World} {g1 g3 gs : Nat} {a : Array Value} {nu pr : List Bool} {s : List Nat} (h : StQ w wr g1 g3 gs a nu pr s) (hb : Below wr.heap.size wr w') : StQ w w' g1 g3 gs a nu pr s := ⟨h.n.below hb h.n.lt, h.p.below hb h.p.lt, h.s.below hb h.s.lt, h.o.on hb⟩
theorem StQ.drewN {w wr : World} {g1 g3 gs : Nat} {a : Array Value} {nu pr : List Bool} {s : List Nat} (h : StQ w wr g1 g3 gs a nu pr s) (n : Nat) : StQ w (wr.drewN n) g1 g3 gs a nu pr s := ⟨h.n, h.p, h.s, h.o.drewN n⟩
theorem StQ.put {w wr : World} {g1 g3 gs : Nat} {a : Array Value} {nu pr : List Bool} {s : List Nat} (h : StQ w wr g1 g3 gs a nu pr s) (h1 : g1 ≠ gs) (h3 : g3 ≠ gs) (hw : w.heap.size + 1 ≤ gs) (m v : Nat) : StQ w (wr.setCell ⟨gs, m, none⟩ (.int .u32 (v : Int))) g1 g3 gs a nu pr (s.set m v) :=
  ⟨UBO.far h.n h1 _, UBO.far h.p h3 _, h.s.set_ m v, Below.setCell (p := ⟨gs, m, none⟩) h.o hw _⟩
def Gm.stK (nu pr : List Bool) (s : List Nat) (i : Nat) (r : List Int) (k : Nat) : List Nat := Gm.addN s i (if Gm.allB true pr r = true then Gm.toK nu r k else 0)
theorem Gm.stK_zero (nu pr : List Bool) (s : List Nat) (i : Nat) (r : List Int) : Gm.stK nu pr s i r 0 = s := by
  unfold Gm.stK
  rw [Gm.toK, ite_self, Gm.addN_zero]
theorem Gm.stK_next (nu pr : List Bool) (s : List Nat) (i : Nat) (r : List Int) (k : Nat) : Gm.stK nu pr s i r (k + 1) = if Gm.toP nu pr r k = true then Gm.addN (Gm.stK nu pr s i r k) i (2 ^ (-1 - r.getD k 0).toNat) else Gm.stK nu pr s i r k := Gm.toP_next nu pr r k i s
theorem Gm.stK_len (nu pr : List Bool) (s : List Nat) (i : Nat) (r : List Int) (k : Nat) : (Gm.stK nu pr s i r k).length = s.length := Gm.addN_len _ _ _
theorem Gm.stK_u32 {nu pr : List Bool} {s : List Nat} (hs : Gm.U32 s) (i : Nat) {r : List Int} (h : ∀ z ∈ r, z < 0 → -1 - z < (32 : Int)) {k : Nat} (hk : k ≤ r.length) : Gm.U32 (Gm.stK nu pr s i r k) := by
  unfold Gm.stK
  refine hs.addN _ ?_
  split
  · exact Gm.toK_lt h k hk
  · decide
theorem Gm.toP_eq (nu pr : List Bool) (r : List Int) (k : Nat) : Gm.toP nu pr r k = (decide (r.getD k 0 < 0) && ((Gm.allB false nu (r.take k) && Gm.allB false nu (r.drop (k + 1))) && Gm.allB true pr r)) := by
  unfold Gm.toP Gm.toB
  rw [Bool.and_assoc]

set_option maxHeartbeats 16000000 in
theorem rSteps_any (v : Value) (G : Gm.Gr) (B : Nat) (w : World) (hg : RdGr w B v G) (hf : Gm.Fit G) (hB : B ≤ w.heap.size) :
    Calls Tryz.prog 13 #[v] w (RowZm (Gm.right G) (Gm.stp G) w) := by
  have H1 := hide (fun (x : World) (h : Below w.heap.size w x) => rright_any v G B x (hg.below h hB) hf (Nat.le_trans hB h.size))
  have HNU := hide (fun (q : Gm.right G = true) (x : World) (h : Below w.heap.size w x) => (show Calls _ _ _ _ (RowT _ _) from (rnullable_any v G B x (hg.below h hB) hf (Nat.le_trans hB h.size)).mono fun e w' k => k.1 q))
  have HPR := hide (fun (q : Gm.right G = true) (x : World) (h : Below w.heap.size w x) => (show Calls _ _ _ _ (RowT _ _) from (rproductive_any v G B x (hg.below h hB) hf (Nat.le_trans hB h.size)).mono fun e w' k => k.1 q))
  obtain ⟨AT, cT, AN, cN, AR, cR, rfl, _, ⟨hlN, hmN⟩, ⟨hlR, hmR⟩, _, _, hR⟩ := hg
  have HS0 := hide (One.start w #[.slice AT G.ts.length cT, .slice AN G.ns.length cN, .slice AR G.rs.length cR, .int .i64 G.st])
  have HRl := hide hR
  have HB := hide hB
  have HFT := hide hf
  clear hf hR hB
  cases q : Gm.right G
  · rw [q] at H1
    clear q HNU HPR
    go_enter Tryz.func13, Tryz.ntmps13
    go_wp2_with fail
    refine (H1.out _ HS0.out.below).mono ?_; rintro _ w2 ⟨rfl, hb⟩
    have HB2 := hide (HS0.out.on hb)
    clear hb
    go_wp2
    go_ret
    exact ⟨fun h => by simp at h, fun _ => ⟨rfl, HB2.out.below⟩⟩
  · have HNU := hide (HNU.out q)
    have HPR := hide (HPR.out q)
    have HOK := hide (Gm.right_ok.1 q)
    have HN : Hid (G.ns.length ≤ 32) := hide (by have := (Gm.nons_iff G).1 HOK.out.n; omega)
    have HR40 : Hid (G.rs.length ≤ 40) := hide HOK.out.r40
    have hnn := HN.out
    have hlen : (G.ns.length : Int) ≤ 9223372036854775807 := by omega
    have hlen2 : (G.rs.length : Int) ≤ 9223372036854775807 := by have := HR40.out; omega
    rw [q] at H1
    obtain ⟨nu, hnu⟩ : ∃ s, s = Gm.gn false G.rs G.ns.length := ⟨_, rfl⟩
    obtain ⟨pr, hpr⟩ : ∃ s, s = Gm.gn true G.rs G.ns.length := ⟨_, rfl⟩
    have hnl : nu.length = G.ns.length := by rw [hnu, Gm.gn_len]
    have hpl : pr.length = G.ns.length := by rw [hpr, Gm.gn_len]
    rw [← hnu] at HNU
    rw [← hpr] at HPR
    unfold RowT at HNU HPR
    rw [hnl] at HNU
    rw [hpl] at HPR
    have HNL := hide hnl
    have HPL := hide hpl
    have HST : Hid (∀ s x, Gm.st1 G s x = Gm.addN s x.l.toNat (Gm.toN nu pr x.r)) := hide (fun s x => by rw [hnu, hpr]; rfl)
    obtain ⟨s0, hs0⟩ : ∃ s, s = List.replicate G.ns.length 0 := ⟨_, rfl⟩
    have HS00 := hide hs0
    have HLS : Hid (∀ xs : List Gm.Rl, (xs.foldl (Gm.st1 G) s0).length = G.ns.length) := hide (fun xs => by rw [Gm.fold_len (Gm.st1_len G), hs0]; simp)
    have HUS : Hid (∀ i, Gm.U32 ((G.rs.take i).foldl (Gm.st1 G) s0)) := hide (fun i => Gm.st_u32 HFT.out HOK.out HN.out _ s0 (fun x hx => List.mem_of_mem_take hx) (by
      rw [hs0]; intro i
      rw [List.getD_eq_getElem?_getD, List.getElem?_replicate]; split <;> simp))
    have HSF : Hid (G.rs.foldl (Gm.st1 G) s0 = Gm.stp G) := hide (by rw [hs0]; exact Gm.st_all HOK.out)
    clear q hs0 hnu hpr hnl hpl
    go_enter Tryz.func13, Tryz.ntmps13
    go_wp2_with fail
    refine (H1.out _ HS0.out.below).mono ?_; rintro _ w2 ⟨rfl, hb⟩
    have HQ2 := hide (HS0.out.on hb)
    have lg : w.heap.size < w2.heap.size := HQ2.out.size
    clear hb H1 HS0
    go_upto_region 3 with fail
    have q0 := fun y : Calm.On w2.heap.size w2 => (HQ2.out.on y.2).c 0 _ rfl
    have q1 := fun y : Calm.On w2.heap.size w2 => (HQ2.out.on y.2).c 1 _ rfl
    have q2 := fun y : Calm.On w2.heap.size w2 => (HQ2.out.on y.2).c 2 _ rfl
    have q3 := fun y : Calm.On w2.heap.size w2 => (HQ2.out.on y.2).c 3 _ rfl
    have HSB : Hid (∀ z, Below w2.heap.size w2 z → ∃ q : Calm.On w2.heap.size w2, z = q.1) := hide (fun z hz => ⟨⟨z, hz⟩, rfl⟩)
    have HD : Hid (Below w2.heap.size w2 w2.drew) := hide (below_drewN (Below.refl _ _) 1)
    refine CalmN.region_tree (fun x => ∃ y : Calm.On w2.heap.size w2, x = y.1) (.one [0, 2] 1 (.one [] 3 (.fin [4, 5]))) (by kernel_rfl) (by kernel_rfl) (fun _ _ d _ _ h => by cases d <;> exact h) ⟨⟨w2.drew, HD.out⟩, rfl⟩ ?_
    simp only [CalmN.wpT, CalmN.wpSt, CalmN.pickOps, List.getElem?_toArray, List.getElem?_cons_zero, List.getElem?_cons_succ]
    repeat (go_big_quiet_step (fail))
    refine wpQuiet_nil ?_
    generalize w2.drew = wd at *
    clear q0 q1 q2 q3
    intro KK hKK
    rw [if_pos (by rfl)]
    go_wp2_with fail
    refine (HNU.out wd (HQ2.out.on HD.out).below).mono ?_; rintro _ v1 ⟨g1, rfl, hg1, hu1, hb⟩
    have HV1 := hide (HD.out.trans (hb.mono HD.out.size))
    have HU1 := hide hu1
    clear hb hu1
    go_wp2_with fail
    refine hKK _ _ (HSB.out _ HV1.out) (fun x => ∃ y : Calm.On w2.heap.size w2, x = y.1) (fun _ h => h) (HSB.out _ HV1.out) ?_
    clear hKK
    refine wpQuiet_nil ?_
    intro KK hKK
    rw [if_pos (by rfl)]
    go_wp2_with fail
    refine (HPR.out v1 (HQ2.out.on HV1.out).below).mono ?_; rintro _ v3 ⟨g3, rfl, hg3, hu3, hb⟩
    have HV3 := hide (HV1.out.trans (hb.mono HV1.out.size))
    have HU3 := hide (And.intro (HU1.out.below hb HU1.out.lt) hu3)
    have HQ3 := hide (HQ2.out.on HV3.out)
    clear hb hu3 HU1 hg1 hg3
    go_wp2_with fail
    refine hKK _ _ (HSB.out _ HV3.out) (fun x => ∃ y : Calm.On w2.heap.size w2, x = y.1) (fun _ h => h) (HSB.out _ HV3.out) ?_
    clear hKK
    repeat (go_big_quiet_step (fail))
    refine wpQuiet_nil ?_
    have x1 := HQ3.out.c 1 _ rfl
    have lg : w.heap.size < v3.heap.size := HQ3.out.size
    clear HV1 HV3 HSB HD HQ2
    go_upto_region 5 with (at_make; refine mkU_arm rfl (.tmp 18) (.tmp 18) _ rfl Tryz.underlying34 G.ns.length _ _ rfl rfl rfl rfl (by omega) ?_; intro w5 hu hb hlt5)
    have HGN : Hid (g1 ≠ v3.heap.size ∧ g3 ≠ v3.heap.size ∧ w.heap.size + 1 ≤ v3.heap.size) := hide ⟨by have := HU3.out.1.lt; omega, by have := HU3.out.2.lt; omega, lg⟩
    have HR5 : Hid (StQ w w5 g1 g3 v3.heap.size #[.slice AT G.ts.length cT, .slice AN G.ns.length cN, .slice AR G.rs.length cR, .int .i64 G.st] nu pr s0) := hide ⟨HU3.out.1.below hb HU3.out.1.lt, HU3.out.2.below hb HU3.out.2.lt, by rw [HS00.out]; unfold UBZ; rw [zi_rep]; exact hu, HQ3.out.on hb⟩
    clear hu hb hlt5 HQ3 x1 lg HU3
    generalize v3.heap.size = gs at *
    go_wp2
    go_loopw [6] (fun vi wr => ∃ i : Nat, i ≤ G.rs.length ∧ vi = .int .i64 i ∧ Hid (StQ w wr g1 g3 gs #[.slice AT G.ts.length cT, .slice AN G.ns.length cN, .slice AR G.rs.length cR, .int .i64 G.st] nu pr ((G.rs.take i).foldl (Gm.st1 G) s0))) (fun vi _ => G.rs.length - (intOf vi).toNat)
    case atStart => exact ⟨0, Nat.zero_le _, rfl, HR5⟩
    case round =>
      clear HR5
      obtain ⟨i, hi, rfl, HWI⟩ := hrel
      obtain ⟨wi, hwi⟩ : ∃ wi : World, wi = wr := ⟨_, rfl⟩
      subst hwi
      have q2 := HWI.out.o.c 2 _ rfl
      have ld : w.heap.size < wi.heap.size := HWI.out.o.size
      by_cases hlt2 : i < G.rs.length
      · obtain ⟨g, o, rfl, hgB, hc⟩ := HRl.out (by omega)
        obtain ⟨k0, ⟨A', c', k1, hlc, _, hri⟩, k2⟩ := hc i hlt2
        have hgw : g < w.heap.size := Nat.lt_of_lt_of_le hgB HB.out
        have k0 := (HWI.out.o.below.cell (p := ⟨g, o + i * 3, none⟩) hgw).trans k0
        have k1 := (HWI.out.o.below.cell (p := ⟨g, o + i * 3 + 1, none⟩) hgw).trans k1
        have k2 := (HWI.out.o.below.cell (p := ⟨g, o + i * 3 + 2, none⟩) hgw).trans k2
        have hgs : g < wi.heap.size := by omega
        have hxm : G.rs[i] ∈ G.rs := List.getElem_mem hlt2
        have HXI := hide (ruIn HFT.out HOK.out hxm)
        have HRI : Hid (∀ z : World, Below w.heap.size w z → RdI z B A' (G.rs[i]).r) := hide (fun z hz => hri.below hz HB.out)
        have HTK := hide ((Gm.st1_take hlt2 s0).trans (HST.out _ _))
        have HCL := hide (HLS.out (G.rs.take i))
        have HCU := hide (HUS.out i)
        generalize (G.rs.take i).foldl (Gm.st1 G) s0 = cur at *
        generalize G.rs[i] = x at *
        obtain ⟨l, r, p⟩ := x
        obtain ⟨m, rfl⟩ : ∃ m : Nat, l = (m : Int) := ⟨l.toNat, by have := HXI.out.l0; simp only at this; omega⟩
        simp only [Int.toNat_natCast] at k0 k1 k2 hlc HRI HTK
        have hmn : m < G.ns.length := by have := HXI.out.l1; simp only at this; omega
        have hmi1 : (m : Int) < (G.ns.length : Int) := by omega
        have HRX := hide (And.intro HXI.out.i HXI.out.n)
        simp only at HRX
        have hr6 : r.length ≤ 6 := HXI.out.c
        have hrl : (r.length : Int) ≤ 9223372036854775807 := by omega
        have HR6 := hide hr6
        have HMN := hide hmn
        obtain ⟨wb, hwb⟩ : ∃ y, y = wi.alloc (.cells #[.int .i64 m, .slice A' r.length c', .int .i64 p] 51) := ⟨_, rfl⟩
        have HBX : Hid (wb.heap[wi.heap.size]? = some (.cells #[.int .i64 m, .slice A' r.length c', .int .i64 p] 51 (0, 0))) := hide (by rw [hwb]; exact heap_alloc_new wi _)
        have HRB : Hid (StQ w wb g1 g3 gs #[.slice AT G.ts.length cT, .slice AN G.ns.length cN, .slice (some ⟨g, o, none⟩) G.rs.length cR, .int .i64 G.st] nu pr (Gm.stK nu pr cur m r 0)) := hide (by rw [Gm.stK_zero]; exact HWI.out.below (by rw [hwb]; exact (Below.refl _ wi).alloc (Nat.le_refl _) _))
        have HNE : Hid (gs ≠ wi.heap.size ∧ w.heap.size + 1 ≤ wi.heap.size) := hide ⟨by have := HWI.out.s.lt; omega, ld⟩
        clear hc hri hlc hxm hmn hr6
        go_upto_region 9 with fail
        rw [← hwb]
        clear hwb k0 k1 k2 HWI hgs q2 ld
        generalize wi.heap.size = bx at *
        go_wp2
        go_loopw [8] (fun vk wr => ∃ k : Nat, k ≤ r.length ∧ vk = .int .i64 k ∧ Hid (StQ w wr g1 g3 gs #[.slice AT G.ts.length cT, .slice AN G.ns.length cN, .slice (some ⟨g, o, none⟩) G.rs.length cR, .int .i64 G.st] nu pr (Gm.stK nu pr cur m r k)) ∧ Hid (wr.heap[bx]? = some (.cells #[.int .i64 m, .slice A' r.length c', .int .i64 p] 51 (0, 0)))) (fun vk _ => r.length - (intOf vk).toNat)
        case atStart => exact ⟨0, Nat.zero_le _, rfl, HRB, HBX⟩
        case round =>
          clear HRB HBX
          obtain ⟨k, hk, rfl, HW2, HBK⟩ := hrel
          have lx := (Array.getElem?_eq_some_iff.1 HBK.out).1
          have c1' := cell_of_row wr _ 1 _ _ _ HBK.out
          by_cases hlt3 : k < r.length
          · obtain ⟨gr, orr, rfl, hgb, hc⟩ := (HRI.out wr HW2.out.o.below) (by omega)
            have k0 := hc k hlt3
            have hzi := HRX.out.1 (r.getD k 0) (by rw [L.gd_lt hlt3]; exact List.getElem_mem hlt3)
            have hzn := HRX.out.2 (r.getD k 0) (by rw [L.gd_lt hlt3]; exact List.getElem_mem hlt3)
            have hgrw : gr < w.heap.size := Nat.lt_of_lt_of_le hgb HB.out
            have HAN := hide (ralone_any r k nu (some ⟨gr, orr, none⟩) (some ⟨g1, 0, none⟩) c' nu.length wr.heap.size wr ((HRI.out wr HW2.out.o.below).more (by have := HW2.out.o.below.size; have := HB.out; omega)) (HW2.out.n.rd0 HW2.out.n.lt) HRX.out.1 (fun z hz h => by rw [HNL.out]; exact HRX.out.2 z hz h) (by have := HR6.out; omega) (by have := HR6.out; omega))
            have HMD := hide (rmade_any r pr (some ⟨gr, orr, none⟩) (some ⟨g3, 0, none⟩) c' pr.length wr.heap.size wr ((HRI.out wr HW2.out.o.below).more (by have := HW2.out.o.below.size; have := HB.out; omega)) (HW2.out.p.rd0 HW2.out.p.lt) HRX.out.1 (fun z hz h => by rw [HPL.out]; exact HRX.out.2 z hz h) (by have := HR6.out; omega))
            rw [HNL.out] at HAN
            rw [HPL.out] at HMD
            have HTP := hide (Gm.toP_eq nu pr r k)
            have HNX := hide (Gm.stK_next nu pr cur m r k)
            have HLK := hide (Gm.stK_len nu pr cur m r k)
            have HUK := hide (Gm.stK_u32 (nu := nu) (pr := pr) HCU.out m (r := r) (fun z hz h => by have := HRX.out.2 z hz h; have := HN.out; omega) (k := k) hk)
            clear hc
            generalize Gm.stK nu pr cur m r k = ck at *
            generalize (Gm.allB false nu (r.take k) && Gm.allB false nu (r.drop (k + 1))) = ba at *
            generalize Gm.allB true pr r = bm at *
            generalize Gm.toP nu pr r k = bt at *
            generalize r.getD k 0 = z at *
            unfold Gm.In at hzi
            by_cases h0 : z < 0
            · obtain ⟨mz, he⟩ : ∃ mz : Nat, -1 - z = (mz : Int) := ⟨(-1 - z).toNat, by omega⟩
              have hmz := hzn h0
              have hsub : IntKind.i64.wrap (-1 - z) = (mz : Int) := by rw [IntWalk.i64_in _ (by omega), he]
              have h31 : mz ≤ 31 := by have := HN.out; omega
              rw [he, Int.toNat_natCast] at HNX
              rw [decide_eq_true h0, Bool.true_and] at HTP
              have HBI := hide (fun w => rbit_any (mz : Int) w (by omega))
              have hb2 : S.bit (mz : Int) = 2 ^ mz := S.bit_nat h31
              have hbl : 2 ^ mz < 4294967296 := by rw [← hb2]; exact S.bit_lt _
              have hcm : m < ck.length := by rw [HLK.out, HCL.out]; exact HMN.out
              have HAD : Hid (Gm.addN ck m (2 ^ mz) = ck.set m (ck.getD m 0 ||| 2 ^ mz)) := hide rfl
              have ho := u32_or_nat (ck.getD m 0) (2 ^ mz) (HUK.out m) hbl
              rw [hb2] at HBI
              generalize 2 ^ mz = b2 at *
              clear hzi hzn he hmz h31 hb2 hbl
              cases ba
              · have HE := hide (HNX.out.trans (if_neg (by rw [HTP.out]; simp)))
                clear HNX HTP HBI HAD ho HMD
                go_wp2_with fail
                refine HAN.out.mono ?_; rintro _ wr ⟨rfl, rfl⟩
                go_wp2
                go_roundw
                case rel => exact ⟨k + 1, hlt3, by go_num, by rw [HE.out]; exact HW2, HBK⟩
                case measure => simp [intOf]; omega
              · cases bm
                · have HE := hide (HNX.out.trans (if_neg (by rw [HTP.out]; simp)))
                  clear HNX HTP HBI HAD ho
                  go_wp2_with fail
                  refine HAN.out.mono ?_; rintro _ wr ⟨rfl, rfl⟩
                  go_wp2_with fail
                  refine HMD.out.mono ?_; rintro _ wr ⟨rfl, rfl⟩
                  go_wp2
                  go_roundw
                  case rel => exact ⟨k + 1, hlt3, by go_num, by rw [HE.out]; exact HW2, HBK⟩
                  case measure => simp [intOf]; omega
                · have HE := hide (HNX.out.trans (if_pos (by rw [HTP.out]; rfl)))
                  have HCM := hide hcm
                  have HX3 := hide (HE.out.trans HAD.out)
                  clear HNX HTP HAD hcm HE
                  generalize ck.getD m 0 ||| b2 = v2 at *
                  generalize hv1 : ck.getD m 0 = v1 at *
                  have HV1 := hide hv1
                  clear hv1
                  go_wp2_with fail
                  refine HAN.out.mono ?_; rintro _ wr ⟨rfl, rfl⟩
                  go_wp2_with fail
                  refine HMD.out.mono ?_; rintro _ wr ⟨rfl, rfl⟩
                  go_upto_region 13 with fail
                  have hbw := HW2.out.o.below
                  have hgrl : gr < wr.heap.size := Nat.lt_of_lt_of_le hgrw hbw.size
                  have q0 := fun z : OnC3 bx gr bx wr => cell_of_row z.1 _ 0 _ _ _ (z.2.1.trans HBK.out)
                  have q1 := fun z : OnC3 bx gr bx wr => cell_of_row z.1 _ 1 _ _ _ (z.2.1.trans HBK.out)
                  have q5 := fun z : OnC3 bx gr bx wr => (show z.1.cell? ⟨gr, orr + k, none⟩ = wr.cell? ⟨gr, orr + k, none⟩ from World.cell?_of_block z.2.2.1).trans k0
                  have HRD : Hid (StQ w wr.drew g1 g3 gs #[.slice AT G.ts.length cT, .slice AN G.ns.length cN, .slice (some ⟨g, o, none⟩) G.rs.length cR, .int .i64 G.st] nu pr ck) := hide (HW2.out.drewN 1)
                  have HED : Hid (∀ i : Nat, wr.drew.heap[i]? = wr.heap[i]?) := hide (fun _ => rfl)
                  have hS : ∃ z : OnC3 bx gr bx wr, wr.drew = z.1 := ⟨⟨wr.drew, rfl, rfl, rfl⟩, rfl⟩
                  have kmd : wr.drew.cell? ⟨gs, m, none⟩ = some (.int .u32 (v1 : Int)) := by rw [HRD.out.s.cell m HCM.out, HV1.out]
                  have HGB : Hid (gr ≠ gs) := hide (by have := HGN.out.2.2; omega)
                  refine CalmN.region_tree (fun x => ∃ y : OnC3 bx gr bx wr, x = y.1) (.two [0, 1, 2, 3, 4, 5, 6, 8, 9, 10, 11, 12, 13] 7 (.one [] 14 (.one [15, 16] 17 (.fin []))) 14 (.one [] 7 (.one [15, 16] 17 (.fin [])))) (by kernel_rfl) (by kernel_rfl) (fun _ _ d _ _ h => by cases d <;> exact h) ⟨⟨wr.drew, rfl, rfl, rfl⟩, rfl⟩ ?_
                  rw [CalmN.wpT]
                  simp only [CalmN.pickOps, List.getElem?_toArray, List.getElem?_cons_zero, List.getElem?_cons_succ]
                  clear k0 c1'
                  repeat (go_big_quiet_step (fail))
                  generalize wr.drew = wd at *
                  clear q0 q1 q5
                  refine wpQuiet_nil ⟨?_, ?_⟩
                  case' refine_1 =>
                    simp only [CalmN.wpT, CalmN.wpSt, CalmN.pickOps, List.getElem?_toArray, List.getElem?_cons_zero, List.getElem?_cons_succ]
                    intro KK hKK
                    rw [if_pos (by rfl)]
                    go_wp2_with fail
                    refine hKK _ _ hS (fun x => ∃ y : OnC3 bx gr bx wr, x = y.1) (fun _ h => h) hS ?_
                    clear hKK
                    refine wpQuiet_nil ?_
                    intro KK hKK
                    rw [if_pos (by rfl)]
                    go_wp2_with fail
                    refine (HBI.out wd).mono ?_; rintro _ we ⟨rfl, qn, hwe⟩
                    have HRE : Hid (StQ w we g1 g3 gs #[.slice AT G.ts.length cT, .slice AN G.ns.length cN, .slice (some ⟨g, o, none⟩) G.rs.length cR, .int .i64 G.st] nu pr ck) := hide (by rw [hwe]; exact HRD.out.drewN qn)
                    have HBE : Hid (we.heap[bx]? = wr.heap[bx]? ∧ we.heap[gr]? = wr.heap[gr]?) := hide (by rw [hwe]; exact ⟨HED.out _, HED.out _⟩)
                    have hS : ∃ z : OnC3 bx gr bx wr, we = z.1 := ⟨⟨we, HBE.out.1, HBE.out.2, HBE.out.1⟩, rfl⟩
                    have km := HRE.out.s.cell m HCM.out
                    rw [HV1.out] at km
                    have fm := HRE.out.s.frozen m
                    have lu := HRE.out.s.lt
                    clear hwe
                    go_wp2_with fail
                    refine hKK _ _ hS (fun x => ∃ y : OnC3 bx gr bx wr, x = y.1) (fun _ h => h) hS ?_
                    clear hKK
                  case' refine_2 =>
                    simp only [CalmN.wpT, CalmN.wpSt, CalmN.pickOps, List.getElem?_toArray, List.getElem?_cons_zero, List.getElem?_cons_succ]
                    intro KK hKK
                    rw [if_pos (by rfl)]
                    go_wp2_with fail
                    refine (HBI.out wd).mono ?_; rintro _ we ⟨rfl, qn, hwe⟩
                    have HRE : Hid (StQ w we g1 g3 gs #[.slice AT G.ts.length cT, .slice AN G.ns.length cN, .slice (some ⟨g, o, none⟩) G.rs.length cR, .int .i64 G.st] nu pr ck) := hide (by rw [hwe]; exact HRD.out.drewN qn)
                    have HBE : Hid (we.heap[bx]? = wr.heap[bx]? ∧ we.heap[gr]? = wr.heap[gr]?) := hide (by rw [hwe]; exact ⟨HED.out _, HED.out _⟩)
                    have hS : ∃ z : OnC3 bx gr bx wr, we = z.1 := ⟨⟨we, HBE.out.1, HBE.out.2, HBE.out.1⟩, rfl⟩
                    have km := HRE.out.s.cell m HCM.out
                    rw [HV1.out] at km
                    have fm := HRE.out.s.frozen m
                    have lu := HRE.out.s.lt
                    clear hwe
                    go_wp2_with fail
                    refine hKK _ _ hS (fun x => ∃ y : OnC3 bx gr bx wr, x = y.1) (fun _ h => h) hS ?_
                    clear hKK
                    refine wpQuiet_nil ?_
                    intro KK hKK
                    rw [if_pos (by rfl)]
                    go_wp2_with fail
                    refine hKK _ _ hS (fun x => ∃ y : OnC3 bx gr bx wr, x = y.1) (fun _ h => h) hS ?_
                    clear hKK
                  all_goals
                    repeat (go_big_quiet_step (fail))
                    refine wpQuiet_nil ?_
                    obtain ⟨wf, hwf⟩ : ∃ y, y = we.setCell ⟨gs, m, none⟩ (.int .u32 (v2 : Int)) := ⟨_, rfl⟩
                    have HRF : Hid (StQ w wf g1 g3 gs #[.slice AT G.ts.length cT, .slice AN G.ns.length cN, .slice (some ⟨g, o, none⟩) G.rs.length cR, .int .i64 G.st] nu pr (Gm.stK nu pr cur m r (k + 1))) := hide (by rw [hwf, HX3.out]; exact HRE.out.put HGN.out.1 HGN.out.2.1 HGN.out.2.2 m v2)
                    have HBF : Hid (wf.heap[bx]? = wr.heap[bx]? ∧ wf.heap[gr]? = wr.heap[gr]?) := hide (by rw [hwf]; exact ⟨(Below.heap_setCell we ⟨gs, m, none⟩ _ _ (fun e => HNE.out.1 e.symm)).trans HBE.out.1, (Below.heap_setCell we ⟨gs, m, none⟩ _ _ HGB.out).trans HBE.out.2⟩)
                    have hS2 : ∃ z : OnC3 bx gr bx wr, wf = z.1 := ⟨⟨wf, HBF.out.1, HBF.out.2, HBF.out.1⟩, rfl⟩
                    intro KK hKK
                    rw [if_pos (by rfl)]
                    go_wp2_with fail
                    rw [← hwf]
                    refine hKK _ _ hS2 (fun x => ∃ y : OnC3 bx gr bx wr, x = y.1) (fun _ h => h) hS2 ?_
                    clear hKK hwf hS2
                    refine wpQuiet_nil ?_
                    have HBX2 := hide (HBF.out.1.trans HBK.out)
                    clear HRE HBE HBF HRD HED km fm lu hS
                    go_wp2
                    go_roundw
                    case rel => exact ⟨k + 1, hlt3, by go_num, HRF, HBX2⟩
                    case measure => simp [intOf]; omega
            · rw [decide_eq_false h0, Bool.false_and] at HTP
              have HE := hide (HNX.out.trans (if_neg (by rw [HTP.out]; simp)))
              clear HNX HTP HAN HMD hzi hzn
              go_wp2
              go_roundw
              case rel => exact ⟨k + 1, hlt3, by go_num, by rw [HE.out]; exact HW2, HBK⟩
              case measure => simp [intOf]; omega
          · obtain rfl : k = r.length := by omega
            have HE : Hid (Gm.stK nu pr cur m r r.length = (G.rs.take (i + 1)).foldl (Gm.st1 G) s0) := hide (by rw [HTK.out]; rfl)
            rw [HE.out] at HW2
            go_wp2
            go_roundw
            case rel => exact ⟨i + 1, hlt2, by go_num, HW2⟩
            case measure => simp [intOf]; omega
      · obtain rfl : i = G.rs.length := by omega
        rw [List.take_length, HSF.out] at HWI
        have HSL : Hid ((Gm.stp G).length = G.ns.length) := hide (Gm.stp_len G)
        go_wp2
        go_ret
        exact ⟨fun _ => ⟨gs, by rw [HSL.out]; rfl, by have := HGN.out.2; omega, HWI.out.s, HWI.out.o.below⟩, fun h => by simp at h⟩
end Go.Proofs.YtajcegofflmoeaaGreatDoor

namespace Go.Proofs.YtajcegofflmoeaaGreatDoor
set_option maxRecDepth 100000
open Go.RowKit

def Gm.clRm (s : List Nat) (i m : Nat) : List Nat := (List.range m).foldl (Gm.cl1 i) s
def Gm.clPm (n : Nat) (s : List Nat) (m : Nat) : List Nat := (List.range m).foldl (Gm.clR n) s
theorem Gm.clRm_next (s : List Nat) (i m : Nat) : Gm.clRm s i (m + 1) = Gm.cl1 i (Gm.clRm s i m) m := by unfold Gm.clRm; rw [List.range_succ, List.foldl_append]; rfl
theorem Gm.clPm_next (n : Nat) (s : List Nat) (m : Nat) : Gm.clPm n s (m + 1) = Gm.clR n (Gm.clPm n s m) m := by unfold Gm.clPm; rw [List.range_succ, List.foldl_append]; rfl
theorem Gm.clRm_len (s : List Nat) (i m : Nat) : (Gm.clRm s i m).length = s.length := Gm.fold_len (Gm.cl1_len i) _ s
theorem Gm.clPm_len (n : Nat) (s : List Nat) (m : Nat) : (Gm.clPm n s m).length = s.length := Gm.fold_len (Gm.clR_len n) _ s
theorem Gm.clF_u32 (i : Nat) : ∀ (xs : List Nat) (s : List Nat), Gm.U32 s → Gm.U32 (xs.foldl (Gm.cl1 i) s)
  | [], _, h => h
  | x :: xs, _, h => Gm.clF_u32 i xs _ (fun j => Gm.cl1_u32 h i x j)
theorem Gm.clG_u32 (n : Nat) : ∀ (xs : List Nat) (s : List Nat), Gm.U32 s → Gm.U32 (xs.foldl (Gm.clR n) s)
  | [], _, h => h
  | x :: xs, _, h => Gm.clG_u32 n xs _ (Gm.clF_u32 x _ _ h)
theorem Gm.clT_u32 (n : Nat) {s : List Nat} (h : Gm.U32 s) : ∀ m, Gm.U32 (Gm.timesN (Gm.clP n) m s)
  | 0 => h
  | m + 1 => Gm.clG_u32 n _ _ (Gm.clT_u32 n h m)
structure CyS (w wr : World) (gs : Nat) (a : Array Value) (s : List Nat) : Prop where
  s : UBZ wr gs s
  o : One w a wr
theorem CyS.drewN {w wr : World} {gs : Nat} {a : Array Value} {s : List Nat} (h : CyS w wr gs a s) (n : Nat) : CyS w (wr.drewN n) gs a s := ⟨h.s, h.o.drewN n⟩
theorem CyS.put {w wr : World} {gs : Nat} {a : Array Value} {s : List Nat} (h : CyS w wr gs a s) (hw : w.heap.size + 1 ≤ gs) (m v : Nat) : CyS w (wr.setCell ⟨gs, m, none⟩ (.int .u32 (v : Int))) gs a (s.set m v) := ⟨h.s.set_ m v, Below.setCell (p := ⟨gs, m, none⟩) h.o hw _⟩
theorem Gm.thB_if (s : List Nat) {k : Nat} (hk : k ≤ 31) : Gm.thB (fun i => (s.getD i 0).testBit i) (k + 1) = if (s.getD k 0).testBit k = true then Gm.thB (fun i => (s.getD i 0).testBit i) k ||| S.bit k else Gm.thB (fun i => (s.getD i 0).testBit i) k := Gm.thB_next _ hk

set_option maxHeartbeats 16000000 in
theorem rCycles_any (v : Value) (G : Gm.Gr) (B : Nat) (w : World) (hg : RdGr w B v G) (hf : Gm.Fit G) (hB : B ≤ w.heap.size) :
    Calls Tryz.prog 15 #[v] w fun e w' => e = .returned (.int .u32 (Gm.cyG G)) ∧ Below w.heap.size w w' := by
  have H1 := hide (fun (x : World) (h : Below w.heap.size w x) => rSteps_any v G B x (hg.below h hB) hf (Nat.le_trans hB h.size))
  obtain ⟨AT, cT, AN, cN, AR, cR, rfl, _, ⟨hlN, hmN⟩, _⟩ := hg
  have HS0 := hide (One.start w #[.slice AT G.ts.length cT, .slice AN G.ns.length cN, .slice AR G.rs.length cR, .int .i64 G.st])
  have hlen : (G.ns.length : Int) ≤ 9223372036854775807 := by omega
  have HC : Hid (Gm.cyG G = if Gm.right G = true then Gm.cyc G else 0) := hide rfl
  generalize Gm.cyG G = cy at *
  clear hf hB
  cases q : Gm.right G
  · rw [q] at H1 HC
    have H1 := hide (fun (x : World) (h : Below w.heap.size w x) => (show Calls _ _ _ _ _ from (H1.out x h).mono fun e w' k => k.2 rfl))
    have HX : Hid (cy = 0) := hide (by rw [HC.out]; rfl)
    clear q HC
    go_enter Tryz.func15, Tryz.ntmps15
    go_wp2_with fail
    refine (H1.out _ HS0.out.below).mono ?_; rintro _ w2 ⟨rfl, hb⟩
    have HB2 := hide (HS0.out.on hb)
    have x1 := HB2.out.c 1 _ rfl
    have lg : w.heap.size < w2.heap.size := HB2.out.size
    clear hb
    go_wp2
    go_loopw [4] (fun vi wr => vi = .int .i64 0 ∧ Hid (wr = w2)) (fun _ _ => 0)
    case atStart => exact ⟨rfl, hide rfl⟩
    case round =>
      obtain ⟨rfl, HE⟩ := hrel
      obtain ⟨wo, hwo⟩ : ∃ wo : World, wo = wr := ⟨_, rfl⟩
      subst hwo
      have c1 : wo.cell? ⟨w.heap.size, 1, none⟩ = some (.slice AN G.ns.length cN) := by rw [HE.out]; exact x1
      have l1 : w.heap.size < wo.heap.size := by rw [HE.out]; exact lg
      clear x1 lg
      by_cases hz : (0 : Int) < (G.ns.length : Int)
      · have hd : decide ((0 : Int) < (G.ns.length : Int)) = true := decide_eq_true hz
        go_wp2
        go_loopw [7, 8] (fun vs vi wz => vs = .int .u32 0 ∧ vi = .int .i64 0 ∧ Hid (wz = w2)) (fun _ _ _ => 0)
        case atStart => exact ⟨rfl, rfl, HE⟩
        case round =>
          obtain ⟨rfl, rfl, HE2⟩ := hrel
          go_wp2
          go_ret
          rw [HE2.out]
          exact ⟨by rw [HX.out]; rfl, HB2.out.below⟩
      · have hd : decide ((0 : Int) < (G.ns.length : Int)) = false := decide_eq_false hz
        go_wp2
        go_loopw [7, 8] (fun vs vi wz => vs = .int .u32 0 ∧ vi = .int .i64 0 ∧ Hid (wz = w2)) (fun _ _ _ => 0)
        case atStart => exact ⟨rfl, rfl, HE⟩
        case round =>
          obtain ⟨rfl, rfl, HE2⟩ := hrel
          go_wp2
          go_ret
          rw [HE2.out]
          exact ⟨by rw [HX.out]; rfl, HB2.out.below⟩
  · have H1 := hide (fun (x : World) (h : Below w.heap.size w x) => (show Calls _ _ _ _ (RowZn _ _) from (H1.out x h).mono fun e w' k => k.1 q))
    have HOK := hide (Gm.right_ok.1 q)
    have hn16 := (Gm.nons_iff G).1 HOK.out.n
    have HN : Hid (1 ≤ G.ns.length ∧ G.ns.length ≤ 16) := hide (by omega)
    have HX : Hid (cy = Gm.cyc G) := hide (by rw [HC.out, if_pos q])
    have HSU := hide (show Gm.U32 (Gm.stp G) from fun i => Gm.stp_u32 (by have := HN.out; omega) i)
    have HSL : Hid ((Gm.stp G).length = G.ns.length) := hide (Gm.stp_len G)
    have HCY := hide (Gm.thB_cyc (Gm.cl_bit HOK.out))
    unfold RowZn at H1
    rw [HSL.out] at H1
    obtain ⟨n, hn⟩ : ∃ n, n = G.ns.length := ⟨_, rfl⟩
    have HTU := hide (fun m => Gm.clT_u32 n HSU.out m)
    have HTL : Hid (∀ m, (Gm.timesN (Gm.clP n) m (Gm.stp G)).length = n) := hide (fun m => by rw [Gm.timesN_len (Gm.clP_len n), HSL.out, hn])
    have HTN : Hid (∀ m, Gm.timesN (Gm.clP n) (m + 1) (Gm.stp G) = Gm.clP n (Gm.timesN (Gm.clP n) m (Gm.stp G))) := hide (fun _ => rfl)
    rw [← hn] at H1 HN HCY HS0 hlen ⊢
    have HT0 : Hid (Gm.timesN (Gm.clP n) 0 (Gm.stp G) = Gm.stp G) := hide rfl
    obtain ⟨T, hT⟩ : ∃ T : Nat → List Nat, T = fun m => Gm.timesN (Gm.clP n) m (Gm.stp G) := ⟨_, rfl⟩
    have e : ∀ m, Gm.timesN (Gm.clP n) m (Gm.stp G) = T m := fun m => by rw [hT]
    simp only [e] at HTU HTL HTN HCY HT0
    clear q HC hn16 hlN hmN hn hT e
    go_enter Tryz.func15, Tryz.ntmps15
    go_wp2_with fail
    refine (H1.out _ HS0.out.below).mono ?_; rintro _ w2 ⟨gs, rfl, hgs, hu, hb⟩
    have HGS : Hid (w.heap.size + 1 ≤ gs) := hide (by have := HS0.out.size; omega)
    have HK2 : Hid (CyS w w2 gs #[.slice AT G.ts.length cT, .slice AN n cN, .slice AR G.rs.length cR, .int .i64 G.st] (T 0)) := hide ⟨by rw [HT0.out]; exact hu, HS0.out.on hb⟩
    clear hgs hu hb HS0 H1
    go_wp2
    go_loopw [4] (fun vi wr => ∃ a : Nat, a ≤ n ∧ vi = .int .i64 a ∧ Hid (CyS w wr gs #[.slice AT G.ts.length cT, .slice AN n cN, .slice AR G.rs.length cR, .int .i64 G.st] (T a))) (fun vi _ => n - (intOf vi).toNat)
    case atStart => exact ⟨0, Nat.zero_le _, rfl, HK2⟩
    case round =>
      clear HK2
      obtain ⟨a, ha, rfl, HK⟩ := hrel
      obtain ⟨wo, hwo⟩ : ∃ wo : World, wo = wr := ⟨_, rfl⟩
      subst hwo
      have x1 := HK.out.o.c 1 _ rfl
      have lg : w.heap.size < wo.heap.size := HK.out.o.size
      have hn0 : decide (0 < n) = true := decide_eq_true (by have := HN.out; omega)
      by_cases hlt : a < n
      · have hd : decide ((a : Int) < (n : Int)) = true := decide_eq_true (by omega)
        have HTa := hide ((HTN.out a).trans (show Gm.clP n (T a) = Gm.clPm n (T a) n from rfl))
        have HUa := hide (HTU.out a)
        have HLa := hide (HTL.out a)
        generalize T a = cur at *
        have HPN := hide (fun m => Gm.clPm_next n cur m)
        have HPL := hide (fun m => (Gm.clPm_len n cur m).trans HLa.out)
        have HPU := hide (fun m => (show Gm.U32 (Gm.clPm n cur m) from Gm.clG_u32 n _ _ HUa.out))
        have HK : Hid (CyS w wo gs #[.slice AT G.ts.length cT, .slice AN n cN, .slice AR G.rs.length cR, .int .i64 G.st] (Gm.clPm n cur 0)) := HK
        go_wp2
        clear x1 lg
        go_loopw [5] (fun vi wr => ∃ i : Nat, i ≤ n ∧ vi = .int .i64 i ∧ Hid (CyS w wr gs #[.slice AT G.ts.length cT, .slice AN n cN, .slice AR G.rs.length cR, .int .i64 G.st] (Gm.clPm n cur i))) (fun vi _ => n - (intOf vi).toNat)
        case atStart => exact ⟨0, Nat.zero_le _, rfl, HK⟩
        case round =>
          clear HK
          obtain ⟨i, hi, rfl, HKi⟩ := hrel
          obtain ⟨wm, hwm⟩ : ∃ wm : World, wm = wr := ⟨_, rfl⟩
          subst hwm
          by_cases hlt2 : i < n
          · have HTi := hide ((HPN.out i).trans (show Gm.clR n (Gm.clPm n cur i) i = Gm.clRm (Gm.clPm n cur i) i n from rfl))
            have HUi := hide (HPU.out i)
            have HLi := hide (HPL.out i)
            generalize Gm.clPm n cur i = cu2 at *
            have HRN := hide (fun m => Gm.clRm_next cu2 i m)
            have HRL := hide (fun m => (Gm.clRm_len cu2 i m).trans HLi.out)
            have HRU := hide (fun m => (show Gm.U32 (Gm.clRm cu2 i m) from Gm.clF_u32 i _ _ HUi.out))
            have HKi : Hid (CyS w wm gs #[.slice AT G.ts.length cT, .slice AN n cN, .slice AR G.rs.length cR, .int .i64 G.st] (Gm.clRm cu2 i 0)) := HKi
            go_wp2
            go_loopw [6] (fun vi wr => ∃ k : Nat, k ≤ n ∧ vi = .int .i64 k ∧ Hid (CyS w wr gs #[.slice AT G.ts.length cT, .slice AN n cN, .slice AR G.rs.length cR, .int .i64 G.st] (Gm.clRm cu2 i k))) (fun vi _ => n - (intOf vi).toNat)
            case atStart => exact ⟨0, Nat.zero_le _, rfl, HKi⟩
            case round =>
              clear HKi
              obtain ⟨k, hk, rfl, HKk⟩ := hrel
              by_cases hlt3 : k < n
              · have HNx := hide (HRN.out k)
                have HLx := hide (HRL.out k)
                have HUx := hide (HRU.out k)
                generalize Gm.clRm cu2 i k = s at *
                have hgs : gs < wr.heap.size := HKk.out.s.lt
                have km := HKk.out.s.cell i (by rw [HLx.out]; exact hlt2)
                have HCK := hide (HKk.out.s.cell k (by rw [HLx.out]; exact hlt3))
                have HHm := hide (srhas_any (s.getD i 0) k wr (HUx.out i) (by have := HN.out; omega))
                rw [S.has_nat _ (by have := HN.out; omega)] at HHm
                have HCL : Hid (Gm.cl1 i s k = if (s.getD i 0).testBit k = true then s.set i (s.getD i 0 ||| s.getD k 0) else s) := hide rfl
                have ho := u32_or_nat (s.getD i 0) (s.getD k 0) (HUx.out i) (HUx.out k)
                generalize s.getD i 0 ||| s.getD k 0 = d3 at *
                generalize (s.getD i 0).testBit k = b at *
                generalize s.getD i 0 = d1 at *
                generalize s.getD k 0 = d2 at *
                cases b
                · have HE := hide (HNx.out.trans (HCL.out.trans (if_neg (by simp))))
                  clear HCL HNx HCK
                  go_wp2_with fail
                  refine HHm.out.mono ?_; rintro _ wk ⟨rfl, q, hwk⟩
                  have HKn : Hid (CyS w wk gs #[.slice AT G.ts.length cT, .slice AN n cN, .slice AR G.rs.length cR, .int .i64 G.st] s) := hide (by rw [hwk]; exact HKk.out.drewN q)
                  clear hwk km hgs
                  go_wp2
                  go_roundw
                  case rel => exact ⟨k + 1, hlt3, by go_num, by rw [HE.out]; exact HKn⟩
                  case measure => simp [intOf]; omega
                · have HE := hide (HNx.out.trans (HCL.out.trans (if_pos rfl)))
                  clear HCL HNx
                  go_wp2_with fail
                  refine HHm.out.mono ?_; rintro _ wk ⟨rfl, q, hwk⟩
                  have HKn : Hid (CyS w wk gs #[.slice AT G.ts.length cT, .slice AN n cN, .slice AR G.rs.length cR, .int .i64 G.st] s) := hide (by rw [hwk]; exact HKk.out.drewN q)
                  have hck : wk.drew.cell? ⟨gs, i, none⟩ = some (.int .u32 (d1 : Int)) := by rw [hwk]; exact km
                  have hcv : wk.drew.cell? ⟨gs, k, none⟩ = some (.int .u32 (d2 : Int)) := by rw [hwk]; exact HCK.out
                  have hfm : wk.drew.frozen? ⟨gs, i, none⟩ = false := HKn.out.s.frozen i
                  have hgd : gs < wk.drew.heap.size := HKn.out.s.lt
                  have HKf : Hid (CyS w (wk.drew.setCell ⟨gs, i, none⟩ (.int .u32 (d3 : Int))) gs #[.slice AT G.ts.length cT, .slice AN n cN, .slice AR G.rs.length cR, .int .i64 G.st] (s.set i d3)) := hide ((HKn.out.drewN 1).put HGS.out i d3)
                  clear hwk km hgs HCK
                  go_upto_region 12 with fail
                  refine CalmN.region_tree (fun _ => True) (.two [0, 1, 2, 3, 4, 6, 7, 8] 5 (.one [] 9 (.one [10, 11] 12 (.fin []))) 9 (.one [] 5 (.one [10, 11] 12 (.fin [])))) (by kernel_rfl) (by kernel_rfl) (fun _ _ d _ _ h => by cases d <;> exact h) trivial ?_
                  generalize wk.drew = wd at *
                  rw [CalmN.wpT]
                  simp only [CalmN.pickOps, List.getElem?_toArray, List.getElem?_cons_zero, List.getElem?_cons_succ]
                  repeat (go_big_quiet_step (fail))
                  refine wpQuiet_nil ⟨?_, ?_⟩
                  all_goals
                    simp only [CalmN.wpT, CalmN.wpSt, CalmN.pickOps, List.getElem?_toArray, List.getElem?_cons_zero, List.getElem?_cons_succ]
                    intro KK hKK
                    rw [if_pos (by rfl)]
                    go_wp2_with fail
                    refine hKK _ _ trivial (fun _ => True) (fun _ h => h) trivial ?_
                    clear hKK
                    refine wpQuiet_nil ?_
                    intro KK hKK
                    rw [if_pos (by rfl)]
                    go_wp2_with fail
                    refine hKK _ _ trivial (fun _ => True) (fun _ h => h) trivial ?_
                    clear hKK
                    repeat (go_big_quiet_step (fail))
                    refine wpQuiet_nil ?_
                    intro KK hKK
                    rw [if_pos (by rfl)]
                    go_wp2_with fail
                    refine hKK _ _ trivial (fun _ => True) (fun _ h => h) trivial ?_
                    clear hKK
                    refine wpQuiet_nil ?_
                    go_wp2
                    go_roundw
                    case rel => exact ⟨k + 1, hlt3, by go_num, by rw [HE.out]; exact HKf⟩
                    case measure => simp [intOf]; omega
              · obtain rfl : k = n := by omega
                rw [← HTi.out] at HKk
                go_wp2
                go_roundw
                case rel => exact ⟨i + 1, hlt2, by go_num, HKk⟩
                case measure => simp [intOf]; omega
          · obtain rfl : i = n := by omega
            rw [← HTa.out] at HKi
            go_wp2
            go_roundw
            case rel => exact ⟨a + 1, hlt, by go_num, HKi⟩
            case measure => simp [intOf]; omega
      · obtain rfl : a = n := by omega
        have hd : decide ((a : Int) < (a : Int)) = false := decide_eq_false (by omega)
        have HUa := hide (HTU.out a)
        have HLa := hide (HTL.out a)
        generalize T a = W at *
        have HTHN := hide (fun k (hk : k ≤ 31) => Gm.thB_if W hk)
        have HTHL := hide (fun k (hk : k ≤ 32) => Gm.pow32 (Gm.thB_lt (fun i => (W.getD i 0).testBit i) k) hk)
        obtain ⟨th, hth⟩ : ∃ f : Nat → Nat, f = Gm.thB (fun i => (W.getD i 0).testBit i) := ⟨_, rfl⟩
        have H0 : Hid (th 0 = 0) := hide (by rw [hth]; rfl)
        rw [← hth] at HTHN HTHL HCY
        clear hth
        go_wp2
        clear x1 lg
        go_loopw [7, 8] (fun vs vi wr => ∃ k : Nat, k ≤ a ∧ vi = .int .i64 k ∧ vs = .int .u32 (th k) ∧ Hid (CyS w wr gs #[.slice AT G.ts.length cT, .slice AN a cN, .slice AR G.rs.length cR, .int .i64 G.st] W)) (fun _ vi _ => a - (intOf vi).toNat)
        case atStart => exact ⟨0, Nat.zero_le _, rfl, by rw [H0.out]; rfl, HK⟩
        case round =>
          clear HK
          obtain ⟨k, hk, rfl, rfl, HKk⟩ := hrel
          by_cases hlt4 : k < a
          · have k0 := HKk.out.s.cell k (by rw [HLa.out]; exact hlt4)
            have hgs : gs < wr.heap.size := HKk.out.s.lt
            have HNx := hide (HTHN.out k (by have := HN.out; omega))
            have HLx := hide (HTHL.out k (by have := HN.out; omega))
            have HHm := hide (srhas_any (W.getD k 0) k wr (HUa.out k) (by have := HN.out; omega))
            rw [S.has_nat _ (by have := HN.out; omega)] at HHm
            have HBt := hide (fun w => rbit_any (k : Int) w (by have := HN.out; omega))
            have ho := hide (u32_or_nat (th k) (S.bit (k : Int)) HLx.out (S.bit_lt _))
            generalize (W.getD k 0).testBit k = b at *
            generalize W.getD k 0 = d1 at *
            generalize th k = s at *
            generalize S.bit (k : Int) = bt at *
            cases b
            · have HE := hide (HNx.out.trans (if_neg (by simp)))
              clear HNx
              go_wp2_with fail
              refine HHm.out.mono ?_; rintro _ wk ⟨rfl, q, hwk⟩
              have HKn : Hid (CyS w wk gs #[.slice AT G.ts.length cT, .slice AN a cN, .slice AR G.rs.length cR, .int .i64 G.st] W) := hide (by rw [hwk]; exact HKk.out.drewN q)
              clear hwk k0 hgs
              go_wp2
              go_roundw
              case rel => exact ⟨k + 1, hlt4, by go_num, by rw [HE.out], HKn⟩
              case measure => simp [intOf]; omega
            · have HE := hide (HNx.out.trans (if_pos rfl))
              clear HNx
              go_wp2_with fail
              refine HHm.out.mono ?_; rintro _ wk ⟨rfl, q, hwk⟩
              have HKn : Hid (CyS w wk gs #[.slice AT G.ts.length cT, .slice AN a cN, .slice AR G.rs.length cR, .int .i64 G.st] W) := hide (by rw [hwk]; exact HKk.out.drewN q)
              clear hwk k0 hgs
              go_wp2_with fail
              refine (HBt.out wk).mono ?_; rintro _ wl ⟨rfl, q2, hwl⟩
              have HKl : Hid (CyS w wl gs #[.slice AT G.ts.length cT, .slice AN a cN, .slice AR G.rs.length cR, .int .i64 G.st] W) := hide (by rw [hwl]; exact HKn.out.drewN q2)
              clear hwl
              go_wp2_with (rw [ho.out])
              go_roundw
              case rel => exact ⟨k + 1, hlt4, by go_num, by rw [HE.out], HKl⟩
              case measure => simp [intOf]; omega
          · obtain rfl : k = a := by omega
            go_wp2
            go_ret
            exact ⟨by rw [HX.out, ← HCY.out]; rfl, HKk.out.o.below⟩
end Go.Proofs.YtajcegofflmoeaaGreatDoor

namespace Go.Proofs.YtajcegofflmoeaaGreatDoor
set_option maxRecDepth 100000
open Go.RowKit

set_option maxHeartbeats 8000000 in
theorem rUseful_any (v : Value) (G : Gm.Gr) (B : Nat) (w : World) (hg : RdGr w B v G) (hf : Gm.Fit G) (hB : B ≤ w.heap.size) :
    Calls Tryz.prog 29 #[v] w fun e w' => e = .returned (.int .u32 (Gm.usG G)) ∧ Below w.heap.size w w' := by
  have HPR := hide (fun (x : World) (h : Below w.heap.size w x) => (rproductive_any v G B x (hg.below h hB) hf (Nat.le_trans hB h.size)).mono fun e w' k => k.rd)
  have HRE := hide (fun (x : World) (h : Below w.heap.size w x) => (rreachable_any v G B x (hg.below h hB) hf (Nat.le_trans hB h.size)).mono fun e w' k => k.rd)
  obtain ⟨pr, hpr⟩ : ∃ s, s = (if Gm.right G = true then Gm.gn true G.rs G.ns.length else []) := ⟨_, rfl⟩
  obtain ⟨re, hre⟩ : ∃ s, s = (if Gm.right G = true then Gm.rc G else []) := ⟨_, rfl⟩
  have hlen : pr.length ≤ 16 ∧ re.length = pr.length := by
    rw [hpr, hre]
    split
    · rename_i hr
      have := (Gm.nons_iff G).1 (Gm.right_ok.1 hr).n
      rw [Gm.gn_len, Gm.rc_len]; omega
    · simp
  have hus : Gm.usG G = Gm.thB (fun i => pr.getD i false && re.getD i false) pr.length := by
    rw [hpr, hre]
    unfold Gm.usG
    split
    · rw [Gm.gn_len]; exact (Gm.both_usf G).symm
    · rfl
  rw [← hpr] at HPR
  rw [← hre] at HRE
  rw [hus]
  have HNX := hide (fun k (hk : k < pr.length) => Gm.thB_next (fun i => pr.getD i false && re.getD i false) (k := k) (by omega))
  have HLT := hide (fun k (hk : k ≤ pr.length) => Gm.pow32 (Gm.thB_lt (fun i => pr.getD i false && re.getD i false) k) (by omega))
  obtain ⟨th, hth⟩ : ∃ f : Nat → Nat, f = Gm.thB (fun i => pr.getD i false && re.getD i false) := ⟨_, rfl⟩
  have H0 : Hid (th 0 = 0) := hide (by rw [hth]; rfl)
  rw [← hth] at HLT HNX ⊢
  have HL := hide hlen
  have hl1 : (pr.length : Int) ≤ 9223372036854775807 := by omega
  rw [hlen.2] at HRE
  obtain ⟨AT, cT, AN, cN, AR, cR, rfl, _⟩ := hg
  have HS0 := hide (One.start w #[.slice AT G.ts.length cT, .slice AN G.ns.length cN, .slice AR G.rs.length cR, .int .i64 G.st])
  obtain ⟨w2, hw2⟩ : ∃ y, y = w.alloc (.cells #[.slice AT G.ts.length cT, .slice AN G.ns.length cN, .slice AR G.rs.length cR, .int .i64 G.st] 26) := ⟨_, rfl⟩
  rw [← hw2] at HS0
  have hd : w.heap.size < w2.heap.size := HS0.out.size
  have q0 := fun y : Calm.On w2.heap.size w2 => (HS0.out.on y.2).c 0 _ rfl
  have q1 := fun y : Calm.On w2.heap.size w2 => (HS0.out.on y.2).c 1 _ rfl
  have q2 := fun y : Calm.On w2.heap.size w2 => (HS0.out.on y.2).c 2 _ rfl
  have q3 := fun y : Calm.On w2.heap.size w2 => (HS0.out.on y.2).c 3 _ rfl
  have HSB : Hid (∀ z, Below w2.heap.size w2 z → ∃ q : Calm.On w2.heap.size w2, z = q.1) := hide (fun z hz => ⟨⟨z, hz⟩, rfl⟩)
  have HBW : Hid (∀ z, Below w2.heap.size w2 z → Below w.heap.size w z) := hide (fun z hz => (HS0.out.on hz).below)
  have HD : Hid (Below w2.heap.size w2 w2.drew) := hide (below_drewN (Below.refl _ _) 1)
  clear hf hB hpr hre hus hlen hth
  go_enter Tryz.func29, Tryz.ntmps29
  go_upto_region 1 with fail
  rw [← hw2]
  clear hw2
  refine CalmN.region_tree (fun x => ∃ y : Calm.On w2.heap.size w2, x = y.1) (.one [0, 2] 1 (.one [] 3 (.fin [4, 5]))) (by kernel_rfl) (by kernel_rfl) (fun _ _ d _ _ h => by cases d <;> exact h) ⟨⟨w2.drew, HD.out⟩, rfl⟩ ?_
  simp only [CalmN.wpT, CalmN.wpSt, CalmN.pickOps, List.getElem?_toArray, List.getElem?_cons_zero, List.getElem?_cons_succ]
  repeat (go_big_quiet_step (fail))
  refine wpQuiet_nil ?_
  generalize w2.drew = wd at *
  clear q0 q1 q2 q3
  intro KK hKK
  rw [if_pos (by rfl)]
  go_wp2_with fail
  refine (HPR.out wd (HBW.out _ HD.out)).mono ?_; rintro _ v1 ⟨A1, c1, rfl, hu1, hb⟩
  have HV1 := hide (HD.out.trans (hb.mono HD.out.size))
  have HU1 := hide hu1
  clear hu1 hb
  go_wp2_with fail
  refine hKK _ _ (HSB.out _ HV1.out) (fun x => ∃ y : Calm.On w2.heap.size w2, x = y.1) (fun _ h => h) (HSB.out _ HV1.out) ?_
  clear hKK
  refine wpQuiet_nil ?_
  intro KK hKK
  rw [if_pos (by rfl)]
  go_wp2_with fail
  refine (HRE.out v1 (HBW.out _ HV1.out)).mono ?_; rintro _ v3 ⟨A3, c3, rfl, hu3, hb⟩
  have HV3 := hide (HV1.out.trans (hb.mono HV1.out.size))
  have HU3 := hide (And.intro (HU1.out.up hb) hu3)
  clear hu3 hb HU1
  go_wp2_with fail
  refine hKK _ _ (HSB.out _ HV3.out) (fun x => ∃ y : Calm.On w2.heap.size w2, x = y.1) (fun _ h => h) (HSB.out _ HV3.out) ?_
  clear hKK
  repeat (go_big_quiet_step (fail))
  refine wpQuiet_nil ?_
  have HBF := hide (HBW.out _ HV3.out)
  clear HV1 HV3 HSB HBW HD HPR HRE HS0
  go_wp2
  go_loopw [5, 6] (fun vs vi wr => ∃ (k q : Nat), k ≤ pr.length ∧ vi = .int .i64 k ∧ vs = .int .u32 (th k) ∧ Hid (wr = v3.drewN q)) (fun _ vi _ => pr.length - (intOf vi).toNat)
  case atStart => exact ⟨0, 0, Nat.zero_le _, rfl, by rw [H0.out]; rfl, hide rfl⟩
  case round =>
    obtain ⟨k, q, hk, rfl, rfl, HW⟩ := hrel
    by_cases hlt : k < pr.length
    · obtain ⟨g, o, rfl, hgb, hc⟩ := HU3.out.1 (by omega)
      obtain ⟨g2, o2, rfl, hgb2, hc2⟩ := HU3.out.2 (by have := HL.out; omega)
      have k0 : wr.cell? ⟨g, o + k, none⟩ = some (.bool (pr.getD k false)) := by rw [HW.out]; exact hc k hlt
      have k2 : wr.cell? ⟨g2, o2 + k, none⟩ = some (.bool (re.getD k false)) := by rw [HW.out]; exact hc2 k (by have := HL.out; omega)
      have HN := hide (HNX.out k hlt)
      have HLk := hide (HLT.out k hk)
      have HBt := hide (fun w => rbit_any (k : Int) w (by omega))
      have ho := hide (u32_or_nat (th k) (S.bit (k : Int)) HLk.out (S.bit_lt _))
      generalize th k = s at *
      generalize S.bit (k : Int) = bt at *
      generalize pr.getD k false = b1 at *
      generalize re.getD k false = b2 at *
      clear hc hc2
      cases b1
      · have HE := hide (HN.out.trans (if_neg (by simp)))
        clear HN
        go_wp2
        go_roundw
        case rel => exact ⟨k + 1, q, hlt, by go_num, by rw [HE.out], HW⟩
        case measure => simp [intOf]; omega
      · cases b2
        · have HE := hide (HN.out.trans (if_neg (by simp)))
          clear HN
          go_wp2
          go_roundw
          case rel => exact ⟨k + 1, q, hlt, by go_num, by rw [HE.out], HW⟩
          case measure => simp [intOf]; omega
        · have HE := hide (HN.out.trans (if_pos rfl))
          clear HN
          go_wp2_with fail
          refine (HBt.out _).mono ?_; rintro _ wk ⟨rfl, q2, hwk⟩
          have HWk : Hid (wk = v3.drewN (q + q2)) := hide (by rw [hwk, HW.out, World.drewN_drewN])
          clear hwk
          go_wp2_with (rw [ho.out])
          go_roundw
          case rel => exact ⟨k + 1, _, hlt, by go_num, by rw [HE.out], HWk⟩
          case measure => simp [intOf]; omega
    · obtain rfl : k = pr.length := by omega
      go_wp2
      go_ret
      rw [HW.out]
      exact ⟨rfl, below_drewN HBF.out _⟩

set_option maxHeartbeats 4000000 in
theorem rEndless_any (v : Value) (G : Gm.Gr) (B : Nat) (w : World) (hg : RdGr w B v G) (hf : Gm.Fit G) (hB : B ≤ w.heap.size) :
    Calls Tryz.prog 17 #[v] w fun e w' => e = .returned (.bool (Gm.enB G)) ∧ Below w.heap.size w w' := by
  have H1 := hide (fun (x : World) (h : Below w.heap.size w x) => rCycles_any v G B x (hg.below h hB) hf (Nat.le_trans hB h.size))
  have H2 := hide (fun (x : World) (h : Below w.heap.size w x) => rUseful_any v G B x (hg.below h hB) hf (Nat.le_trans hB h.size))
  have ho := u32_and_nat (Gm.cyG G) (Gm.usG G) Gm.cyG_lt Gm.usG_lt
  unfold Gm.enB
  generalize Gm.cyG G &&& Gm.usG G = R at *
  generalize Gm.cyG G = N at *
  generalize Gm.usG G = P at *
  obtain ⟨AT, cT, AN, cN, AR, cR, rfl, _⟩ := hg
  have HS0 := hide (One.start w #[.slice AT G.ts.length cT, .slice AN G.ns.length cN, .slice AR G.rs.length cR, .int .i64 G.st])
  obtain ⟨w2, hw2⟩ : ∃ y, y = w.alloc (.cells #[.slice AT G.ts.length cT, .slice AN G.ns.length cN, .slice AR G.rs.length cR, .int .i64 G.st] 26) := ⟨_, rfl⟩
  rw [← hw2] at HS0
  have hd : w.heap.size < w2.heap.size := HS0.out.size
  have q0 := fun y : Calm.On w2.heap.size w2 => (HS0.out.on y.2).c 0 _ rfl
  have q1 := fun y : Calm.On w2.heap.size w2 => (HS0.out.on y.2).c 1 _ rfl
  have q2 := fun y : Calm.On w2.heap.size w2 => (HS0.out.on y.2).c 2 _ rfl
  have q3 := fun y : Calm.On w2.heap.size w2 => (HS0.out.on y.2).c 3 _ rfl
  have HSB : Hid (∀ z, Below w2.heap.size w2 z → ∃ q : Calm.On w2.heap.size w2, z = q.1) := hide (fun z hz => ⟨⟨z, hz⟩, rfl⟩)
  have HBW : Hid (∀ z, Below w2.heap.size w2 z → Below w.heap.size w z) := hide (fun z hz => (HS0.out.on hz).below)
  have HD : Hid (Below w2.heap.size w2 w2.drew) := hide (below_drewN (Below.refl _ _) 1)
  clear hf hB
  go_enter Tryz.func17, Tryz.ntmps17
  go_upto_region 1 with fail
  rw [← hw2]
  clear hw2
  refine CalmN.region_tree (fun x => ∃ y : Calm.On w2.heap.size w2, x = y.1) (.one [0, 2] 1 (.one [] 3 (.fin [4, 5, 6]))) (by kernel_rfl) (by kernel_rfl) (fun _ _ d _ _ h => by cases d <;> exact h) ⟨⟨w2.drew, HD.out⟩, rfl⟩ ?_
  simp only [CalmN.wpT, CalmN.wpSt, CalmN.pickOps, List.getElem?_toArray, List.getElem?_cons_zero, List.getElem?_cons_succ]
  repeat (go_big_quiet_step (fail))
  refine wpQuiet_nil ?_
  generalize w2.drew = wd at *
  clear q0 q1 q2 q3
  intro KK hKK
  rw [if_pos (by rfl)]
  go_wp2_with fail
  refine (H1.out wd (HBW.out _ HD.out)).mono ?_; rintro _ v1 ⟨rfl, hb⟩
  have HV1 := hide (HD.out.trans (hb.mono HD.out.size))
  clear hb
  go_wp2_with fail
  refine hKK _ _ (HSB.out _ HV1.out) (fun x => ∃ y : Calm.On w2.heap.size w2, x = y.1) (fun _ h => h) (HSB.out _ HV1.out) ?_
  clear hKK
  refine wpQuiet_nil ?_
  intro KK hKK
  rw [if_pos (by rfl)]
  go_wp2_with fail
  refine (H2.out v1 (HBW.out _ HV1.out)).mono ?_; rintro _ v2 ⟨rfl, hb⟩
  have HV2 := hide (HV1.out.trans (hb.mono HV1.out.size))
  clear hb
  go_wp2_with fail
  refine hKK _ _ (HSB.out _ HV2.out) (fun x => ∃ y : Calm.On w2.heap.size w2, x = y.1) (fun _ h => h) (HSB.out _ HV2.out) ?_
  clear hKK
  repeat (go_big_quiet_step (fail))
  refine wpQuiet_nil ?_
  go_wp2
  go_ret
  exact ⟨rfl, HBW.out _ HV2.out⟩
end Go.Proofs.YtajcegofflmoeaaGreatDoor

namespace Go.Proofs.YtajcegofflmoeaaGreatDoor
set_option maxRecDepth 100000
open Go.RowKit

theorem Gm.pick_first {us n there i : Nat} {st : List Nat} (hi : i < n) (h : Gm.next us st there i = true) (hb : ∀ j, j < i → Gm.next us st there j = false) : Gm.pickO us st n there = some i := by
  unfold Gm.pickO
  rw [List.find?_range_eq_some]
  exact ⟨h, List.mem_range.2 hi, fun j hj => by rw [hb j hj]; rfl⟩
theorem Gm.pick_nil {us n there : Nat} {st : List Nat} (hb : ∀ j, j < n → Gm.next us st there j = false) : Gm.pickO us st n there = none := by
  unfold Gm.pickO
  rw [List.find?_eq_none]
  intro j hj
  rw [hb j (List.mem_range.1 hj)]; simp
set_option maxHeartbeats 16000000 in
theorem rOrder_any (v : Value) (G : Gm.Gr) (B : Nat) (w : World) (hg : RdGr w B v G) (hf : Gm.Fit G) (hB : B ≤ w.heap.size) :
    Calls Tryz.prog 10 #[v] w (OrAns G w) := by
  have H1 := hide (fun (x : World) (h : Below w.heap.size w x) => rright_any v G B x (hg.below h hB) hf (Nat.le_trans hB h.size))
  have H2 := hide (fun (x : World) (h : Below w.heap.size w x) => rEndless_any v G B x (hg.below h hB) hf (Nat.le_trans hB h.size))
  have H3 := hide (fun (q : Gm.right G = true) (x : World) (h : Below w.heap.size w x) => (show Calls _ _ _ _ (RowZn _ _) from (rSteps_any v G B x (hg.below h hB) hf (Nat.le_trans hB h.size)).mono fun e w' k => k.1 q))
  have H4 := hide (fun (x : World) (h : Below w.heap.size w x) => rUseful_any v G B x (hg.below h hB) hf (Nat.le_trans hB h.size))
  have HOE : Hid (Gm.orE G = if Gm.right G = true then (if Gm.enB G = true then 10 else 0) else 1) := hide rfl
  obtain ⟨AT, cT, AN, cN, AR, cR, rfl, _⟩ := hg
  have HS0 := hide (One.start w #[.slice AT G.ts.length cT, .slice AN G.ns.length cN, .slice AR G.rs.length cR, .int .i64 G.st])
  clear hf hB
  cases q : Gm.right G with
  | false =>
    rw [q] at H1 HOE
    clear q H2 H3 H4
    go_enter Tryz.func10, Tryz.ntmps10
    go_wp2_with fail
    refine (H1.out _ HS0.out.below).mono ?_; rintro _ w2 ⟨rfl, hb⟩
    have HB2 := hide (HS0.out.on hb)
    clear hb
    go_wp2
    go_ret2
    exact OrAns.no HOE.out (by decide) HB2.out.below
  | true =>
    have H3 := hide (H3.out q)
    have HOK := hide (Gm.right_ok.1 q)
    have HUS : Hid (Gm.usG G = Gm.usf G) := hide (by unfold Gm.usG; rw [if_pos q])
    rw [HUS.out] at H4
    have HQ := hide q
    rw [q] at H1
    rw [if_pos q] at HOE
    clear q
    go_enter Tryz.func10, Tryz.ntmps10
    go_wp2_with fail
    refine (H1.out _ HS0.out.below).mono ?_; rintro _ w2 ⟨rfl, hb⟩
    have HB2 := hide (HS0.out.on hb)
    clear hb H1 HS0
    have x0 := HB2.out.c 0 _ rfl
    have x1 := HB2.out.c 1 _ rfl
    have x2 := HB2.out.c 2 _ rfl
    have x3 := HB2.out.c 3 _ rfl
    have lg : w.heap.size < w2.heap.size := HB2.out.size
    cases qe : Gm.enB G with
    | true =>
      rw [qe] at H2
      rw [if_pos qe] at HOE
      clear qe H3 H4
      go_wp2_with fail
      refine (H2.out _ HB2.out.below).mono ?_; rintro _ w3 ⟨rfl, hb⟩
      have HB3 := hide (HB2.out.on hb)
      clear hb x0 x1 x2 x3 lg
      go_wp2
      go_ret2
      exact OrAns.no HOE.out (by decide) HB3.out.below
    | false =>
      rw [qe] at H2
      rw [if_neg (by rw [qe]; simp)] at HOE
      have HOG : Hid (Gm.orG G = Gm.oi (Gm.order G)) := hide (by unfold Gm.orG; rw [if_pos ⟨HQ.out, qe⟩])
      have HN : Hid (G.ns.length ≤ 16) := hide (by have := (Gm.nons_iff G).1 HOK.out.n; omega)
      have hlen : (G.ns.length : Int) ≤ 9223372036854775807 := by have := HN.out; omega
      have HSU := hide (fun i => Gm.stp_u32 (G := G) (by have := HN.out; omega) i)
      have HSL : Hid ((Gm.stp G).length = G.ns.length) := hide (Gm.stp_len G)
      have HUL : Hid (Gm.usf G < 4294967296) := hide (Gm.pow32 (Gm.usf_lt G) (by have := HN.out; omega))
      have HOD : Hid (Gm.ordL (Gm.usf G) (Gm.stp G) G.ns.length G.ns.length 0 = Gm.order G) := hide rfl
      unfold RowZn at H3
      rw [HSL.out] at H3
      generalize Gm.order G = O at *
      generalize Gm.stp G = st at *
      generalize Gm.usf G = us at *
      clear qe
      go_wp2_with fail
      refine (H2.out _ HB2.out.below).mono ?_; rintro _ w3 ⟨rfl, hb⟩
      have HB3 := hide (HB2.out.on hb)
      clear hb x0 x1 x2 x3 lg H2 HB2
      go_upto_region 5 with fail
      have lg : w.heap.size < w3.heap.size := HB3.out.size
      have q0 := fun y : Calm.On w3.heap.size w3 => (HB3.out.on y.2).c 0 _ rfl
      have q1 := fun y : Calm.On w3.heap.size w3 => (HB3.out.on y.2).c 1 _ rfl
      have q2 := fun y : Calm.On w3.heap.size w3 => (HB3.out.on y.2).c 2 _ rfl
      have q3 := fun y : Calm.On w3.heap.size w3 => (HB3.out.on y.2).c 3 _ rfl
      have HSB : Hid (∀ z, Below w3.heap.size w3 z → ∃ q : Calm.On w3.heap.size w3, z = q.1) := hide (fun z hz => ⟨⟨z, hz⟩, rfl⟩)
      have HBW : Hid (∀ z, Below w3.heap.size w3 z → One w #[.slice AT G.ts.length cT, .slice AN G.ns.length cN, .slice AR G.rs.length cR, .int .i64 G.st] z) := hide (fun z hz => HB3.out.on hz)
      have HD : Hid (Below w3.heap.size w3 w3.drew) := hide (below_drewN (Below.refl _ _) 1)
      refine CalmN.region_tree (fun x => ∃ y : Calm.On w3.heap.size w3, x = y.1) (.one [0, 2] 1 (.one [] 3 (.fin [4, 5]))) (by kernel_rfl) (by kernel_rfl) (fun _ _ d _ _ h => by cases d <;> exact h) ⟨⟨w3.drew, HD.out⟩, rfl⟩ ?_
      simp only [CalmN.wpT, CalmN.wpSt, CalmN.pickOps, List.getElem?_toArray, List.getElem?_cons_zero, List.getElem?_cons_succ]
      repeat (go_big_quiet_step (fail))
      refine wpQuiet_nil ?_
      generalize w3.drew = wd at *
      clear q0 q1 q2 q3
      intro KK hKK
      rw [if_pos (by rfl)]
      go_wp2_with fail
      refine (H3.out wd (HBW.out _ HD.out).below).mono ?_; rintro _ v1 ⟨gs, rfl, _, hu, hb⟩
      have HV1 := hide (HD.out.trans (hb.mono HD.out.size))
      have HU1 := hide hu
      clear hb hu
      go_wp2_with fail
      refine hKK _ _ (HSB.out _ HV1.out) (fun x => ∃ y : Calm.On w3.heap.size w3, x = y.1) (fun _ h => h) (HSB.out _ HV1.out) ?_
      clear hKK
      refine wpQuiet_nil ?_
      intro KK hKK
      rw [if_pos (by rfl)]
      go_wp2_with fail
      refine (H4.out v1 (HBW.out _ HV1.out).below).mono ?_; rintro _ v2 ⟨rfl, hb⟩
      have HV2 := hide (HV1.out.trans (hb.mono HV1.out.size))
      have HU2 := hide (HU1.out.below hb HU1.out.lt)
      have HQ2 := hide (HBW.out _ HV2.out)
      clear hb
      go_wp2_with fail
      refine hKK _ _ (HSB.out _ HV2.out) (fun x => ∃ y : Calm.On w3.heap.size w3, x = y.1) (fun _ h => h) (HSB.out _ HV2.out) ?_
      clear hKK
      repeat (go_big_quiet_step (fail))
      refine wpQuiet_nil ?_
      clear HV1 HV2 HSB HBW HD HU1 HB3 H3 H4 HUS HQ lg
      have HGL := hide HU2.out.lt
      have HST : Hid (∀ z, Below v2.heap.size v2 z → One w #[.slice AT G.ts.length cT, .slice AN G.ns.length cN, .slice AR G.rs.length cR, .int .i64 G.st] z ∧ UBZ z gs st) := hide (fun z hz => ⟨HQ2.out.on hz, HU2.out.below hz HU2.out.lt⟩)
      have HB0 := hide (show Below v2.heap.size v2 v2 from Below.refl _ _)
      have HW1 : Hid (w.heap.size < v2.heap.size) := hide HQ2.out.size
      obtain ⟨n, hn⟩ : ∃ n, n = G.ns.length := ⟨_, rfl⟩
      rw [← hn] at HN HSL HOD hlen HST ⊢
      clear HU2 HQ2 hn
      go_wp2
      go_loopw [6, 7, 8] (fun vl vt va wr => ∃ (VL : Value) (l : List Nat) (th a : Nat), VL = vl ∧ a ≤ n ∧ va = .int .i64 a ∧ vt = .int .u32 (th : Int) ∧ Hid (th < 4294967296) ∧ Hid (OwnI wr v2.heap.size VL (Gm.oi l)) ∧ Hid (Below v2.heap.size v2 wr) ∧ Hid (l ++ Gm.ordL us st n (n - a) th = O) ∧ Hid (l.length ≤ a)) (fun _ _ va _ => n - (intOf va).toNat)
      case atStart => exact ⟨_, [], 0, 0, rfl, Nat.zero_le _, rfl, rfl, hide (by decide), hide (OwnI.nil _ _), HB0, hide (by rw [← HOD.out]; rfl), hide (Nat.le_refl _)⟩
      case round =>
        clear HB0
        obtain ⟨VL, l, th, a, rfl, ha, rfl, rfl, HT, HOl, HB, HEq, HLl⟩ := hrel
        obtain ⟨wo, hwo⟩ : ∃ wo : World, wo = wr := ⟨_, rfl⟩
        subst hwo
        have y1 := (HST.out wo HB.out).1.c 1 _ rfl
        have lg : w.heap.size < wo.heap.size := by have := HB.out.size; have := HW1.out; omega
        by_cases hlt : a < n
        · go_wp2
          clear y1 lg
          go_loopw [6, 7, 9] (fun vl vt vi wr => ∃ i : Nat, VL = vl ∧ vt = .int .u32 (th : Int) ∧ i ≤ n ∧ vi = .int .i64 i ∧ Hid (OwnI wr v2.heap.size VL (Gm.oi l)) ∧ Hid (Below v2.heap.size v2 wr) ∧ Hid (∀ j, j < i → Gm.next us st th j = false)) (fun _ _ vi _ => n - (intOf vi).toNat)
          case atStart => exact ⟨0, rfl, rfl, Nat.zero_le _, rfl, HOl, HB, hide (fun _ h => absurd h (by omega))⟩
          case round =>
            clear HOl HB
            obtain ⟨i, rfl, rfl, hi, rfl, HOi, HBi, HNo⟩ := hrel
            have y1 := (HST.out wr HBi.out).1.c 1 _ rfl
            have lg : w.heap.size < wr.heap.size := by have := HBi.out.size; have := HW1.out; omega
            by_cases hlt2 : i < n
            · have HH1 := hide (srhas_any us (i : Int) wr HUL.out (by have := HN.out; omega))
              have HH2 := hide (fun y => srhas_any th (i : Int) y HT.out (by have := HN.out; omega))
              rw [S.has_nat _ (by have := HN.out; omega)] at HH1 HH2
              have HNE : Hid (Gm.next us st th i = (us.testBit i && !th.testBit i && Gm.subN (st.getD i 0) th)) := hide rfl
              have HNX : Hid (Gm.next us st th i = false → ∀ j, j < i + 1 → Gm.next us st th j = false) := hide (fun h j hj => by
                rcases Nat.lt_or_ge j i with h1 | h1
                · exact HNo.out j h1
                · obtain rfl : j = i := by omega
                  exact h)
              have HPF := hide (fun (h : Gm.next us st th i = true) => Gm.pick_first hlt2 h HNo.out)
              generalize us.testBit i = bu at *
              generalize th.testBit i = bt at *
              cases bu
              · have HE := hide (HNX.out (by rw [HNE.out]; rfl))
                clear HNX HPF HNE
                go_wp2_with fail
                refine HH1.out.mono ?_; rintro _ wj ⟨rfl, q1, hw⟩
                have HO1 : Hid (OwnI wj v2.heap.size VL (Gm.oi l)) := hide (by rw [hw]; exact HOi.out.drewN q1)
                have HB1 : Hid (Below v2.heap.size v2 wj) := hide (by rw [hw]; exact below_drewN HBi.out q1)
                clear hw
                go_wp2
                go_roundw
                case rel => exact ⟨i + 1, rfl, rfl, hlt2, by go_num, HO1, HB1, HE⟩
                case measure => simp [intOf]; omega
              · cases bt
                · have kst := (HST.out wr HBi.out).2.cell i (by rw [HSL.out]; exact hlt2)
                  have HKS := hide kst
                  have hgl : gs < wr.heap.size := (HST.out wr HBi.out).2.lt
                  have HGW := hide hgl
                  have hand := u32_andNot_nat (st.getD i 0) th (HSU.out i) HT.out
                  have hq : (((st.getD i 0 &&& (4294967295 - th) : Nat) : Int) == 0) = Gm.subN (st.getD i 0) th := by
                    rw [Bool.eq_iff_iff, ← Gm.andNot_sub (HSU.out i) HT.out, beq_iff_eq]; omega
                  generalize Gm.subN (st.getD i 0) th = bs at *
                  generalize st.getD i 0 &&& (4294967295 - th) = d at *
                  generalize st.getD i 0 = av at *
                  clear kst hgl
                  cases bs
                  · have HE := hide (HNX.out (by rw [HNE.out]; rfl))
                    clear HNX HPF HNE
                    go_wp2_with fail
                    refine HH1.out.mono ?_; rintro _ wj ⟨rfl, q1, hw⟩
                    have HO1 : Hid (OwnI wj v2.heap.size VL (Gm.oi l)) := hide (by rw [hw]; exact HOi.out.drewN q1)
                    have HB1 : Hid (Below v2.heap.size v2 wj) := hide (by rw [hw]; exact below_drewN HBi.out q1)
                    have HK1 : Hid (wj.cell? ⟨gs, i, none⟩ = some (.int .u32 (av : Int)) ∧ gs < wj.heap.size) := hide (by rw [hw]; exact ⟨HKS.out, HGW.out⟩)
                    clear hw
                    go_wp2_with fail
                    refine (HH2.out wj).mono ?_; rintro _ wk ⟨rfl, q2, hw⟩
                    have HO2 : Hid (OwnI wk v2.heap.size VL (Gm.oi l)) := hide (by rw [hw]; exact HO1.out.drewN q2)
                    have HB2 : Hid (Below v2.heap.size v2 wk) := hide (by rw [hw]; exact below_drewN HB1.out q2)
                    have k2 : wk.cell? ⟨gs, i, none⟩ = some (.int .u32 (av : Int)) := by rw [hw]; exact HK1.out.1
                    have g2 : gs < wk.heap.size := by rw [hw]; exact HK1.out.2
                    clear hw
                    go_wp2
                    go_roundw
                    case rel => exact ⟨i + 1, rfl, rfl, hlt2, by go_num, HO2, HB2, HE⟩
                    case measure => simp [intOf]; omega
                  · have hpk := HPF.out (by rw [HNE.out]; rfl)
                    have hb2 : S.bit (i : Int) = 2 ^ i := S.bit_nat (by have := HN.out; omega)
                    have HBt := hide (fun w => rbit_any (i : Int) w (by have := HN.out; omega))
                    rw [hb2] at HBt
                    have hbl : 2 ^ i < 4294967296 := by rw [← hb2]; exact S.bit_lt _
                    have ho := hide (u32_or_nat th (2 ^ i) HT.out hbl)
                    have HT2 := hide (S.or_lt HT.out hbl)
                    have HE2 : Hid ((l ++ [i]) ++ Gm.ordL us st n (n - (a + 1)) (th ||| 2 ^ i) = O) := hide (by
                      have h1 := HEq.out
                      rw [show n - a = (n - (a + 1)) + 1 by omega, Gm.ordL_some hpk] at h1
                      rw [List.append_assoc]; exact h1)
                    have HLL : Hid ((Gm.oi l).length ≤ 1000) := hide (by have := HLl.out; have := HN.out; unfold Gm.oi; rw [List.length_map]; omega)
                    have HOI : Hid (Gm.oi (l ++ [i]) = Gm.oi l ++ [(i : Int)]) := hide (by unfold Gm.oi; rw [List.map_append]; rfl)
                    have HLN2 : Hid ((l ++ [i]).length ≤ a + 1) := hide (by have := HLl.out; rw [List.length_append]; simp only [List.length_singleton]; omega)
                    clear HNX HPF HNE hpk hb2 hbl
                    generalize 2 ^ i = b2 at *
                    go_wp2_with fail
                    refine HH1.out.mono ?_; rintro _ wj ⟨rfl, q1, hw⟩
                    have HO1 : Hid (OwnI wj v2.heap.size VL (Gm.oi l)) := hide (by rw [hw]; exact HOi.out.drewN q1)
                    have HB1 : Hid (Below v2.heap.size v2 wj) := hide (by rw [hw]; exact below_drewN HBi.out q1)
                    have HK1 : Hid (wj.cell? ⟨gs, i, none⟩ = some (.int .u32 (av : Int)) ∧ gs < wj.heap.size) := hide (by rw [hw]; exact ⟨HKS.out, HGW.out⟩)
                    clear hw
                    go_wp2_with fail
                    refine (HH2.out wj).mono ?_; rintro _ wk ⟨rfl, q2, hw⟩
                    have HO2 : Hid (OwnI wk v2.heap.size VL (Gm.oi l)) := hide (by rw [hw]; exact HO1.out.drewN q2)
                    have HB2 : Hid (Below v2.heap.size v2 wk) := hide (by rw [hw]; exact below_drewN HB1.out q2)
                    have k2 : wk.cell? ⟨gs, i, none⟩ = some (.int .u32 (av : Int)) := by rw [hw]; exact HK1.out.1
                    have g2 : gs < wk.heap.size := by rw [hw]; exact HK1.out.2
                    clear hw
                    go_wp2_with (at_builtin; refine apI_arm rfl (.tmp 51) (.tmp 53) _ rfl Tryz.underlying29 v2.heap.size _ (Gm.oi l) rfl (HO2.out.alloc _) wk.heap.size 1 (i : Int) rfl (World.cell?_alloc_new _ _ _ 0) (by have := HLL.out; omega) (by have := HB2.out.size; simp; omega) ?_; intro v4 w4 ho4 hg4)
                    have HB4 := hide (below_grownI (HB2.out.alloc (by have := HB2.out.size; omega) _) (HO2.out.alloc _) hg4 (by have := HB2.out.size; simp; omega))
                    have HO4 := hide ho4
                    clear ho4 hg4 k2 g2
                    refine (HBt.out _).mono ?_; rintro _ w5 ⟨rfl, q5, hw⟩
                    have HO5 : Hid (OwnI w5 v2.heap.size v4 (Gm.oi (l ++ [i]))) := hide (by rw [hw, HOI.out]; exact HO4.out.drewN q5)
                    have HB5 : Hid (Below v2.heap.size v2 w5) := hide (by rw [hw]; exact below_drewN HB4.out q5)
                    clear hw
                    go_wp2_with (rw [ho.out])
                    go_roundw
                    case rel => exact ⟨_, l ++ [i], _, a + 1, rfl, hlt, by go_num, rfl, HT2, HO5, HB5, HE2, HLN2⟩
                    case measure => simp [intOf]; omega
                · have HE := hide (HNX.out (by rw [HNE.out]; rfl))
                  clear HNX HPF HNE
                  go_wp2_with fail
                  refine HH1.out.mono ?_; rintro _ wj ⟨rfl, q1, hw⟩
                  have HO1 : Hid (OwnI wj v2.heap.size VL (Gm.oi l)) := hide (by rw [hw]; exact HOi.out.drewN q1)
                  have HB1 : Hid (Below v2.heap.size v2 wj) := hide (by rw [hw]; exact below_drewN HBi.out q1)
                  clear hw
                  go_wp2_with fail
                  refine (HH2.out wj).mono ?_; rintro _ wk ⟨rfl, q2, hw⟩
                  have HO2 : Hid (OwnI wk v2.heap.size VL (Gm.oi l)) := hide (by rw [hw]; exact HO1.out.drewN q2)
                  have HB2 : Hid (Below v2.heap.size v2 wk) := hide (by rw [hw]; exact below_drewN HB1.out q2)
                  clear hw
                  go_wp2
                  go_roundw
                  case rel => exact ⟨i + 1, rfl, rfl, hlt2, by go_num, HO2, HB2, HE⟩
                  case measure => simp [intOf]; omega
            · obtain rfl : i = n := by omega
              have HE2 : Hid (l ++ Gm.ordL us st i (i - (a + 1)) th = O) := hide (by
                have h1 := HEq.out
                have hp := Gm.pick_nil HNo.out
                rw [Gm.ordL_none hp] at h1 ⊢
                exact h1)
              have HLN2 : Hid (l.length ≤ a + 1) := hide (by have := HLl.out; omega)
              go_wp2
              go_roundw
              case rel => exact ⟨VL, l, th, a + 1, rfl, hlt, by go_num, rfl, HT, HOi, HBi, HE2, HLN2⟩
              case measure => simp [intOf]; omega
        · obtain rfl : a = n := by omega
          have HX : Hid (l = O) := hide (by have := HEq.out; rw [Nat.sub_self, Gm.ordL, List.append_nil] at this; exact this)
          obtain ⟨A', c', rfl, _, _, hr⟩ := HOl.out.form
          have HR := hide hr
          have HBF := hide (HST.out wo HB.out).1.below
          clear hr
          go_wp2
          go_ret2
          exact ⟨A', c', by rw [HOG.out, HOE.out, HX.out]; rfl, by rw [HOG.out, ← HX.out]; exact HR.out, HBF.out⟩
end Go.Proofs.YtajcegofflmoeaaGreatDoor

namespace Go.Proofs.YtajcegofflmoeaaGreatDoor
set_option maxRecDepth 100000
open Go.RowKit

theorem Gm.ordL_len (us : Nat) (st : List Nat) (n : Nat) : ∀ (m there : Nat), (Gm.ordL us st n m there).length ≤ m
  | 0, _ => Nat.le_refl _
  | m + 1, there => by
    rw [Gm.ordL]
    cases Gm.pickO us st n there with
    | none => simp
    | some i => have := Gm.ordL_len us st n m (there ||| 2 ^ i); simpa using this
theorem Gm.orG_len (G : Gm.Gr) : (Gm.orG G).length ≤ 9223372036854775807 := by
  unfold Gm.orG
  split
  · rename_i h
    have h1 := Gm.ordL_len (Gm.usf G) (Gm.stp G) G.ns.length G.ns.length 0
    have h2 := (Gm.nons_iff G).1 (Gm.right_ok.1 h.1).n
    unfold Gm.oi Gm.order
    rw [List.length_map]; omega
  · simp
set_option maxHeartbeats 16000000 in
theorem cycleTells_walk (v : Value) (G : Gm.Gr) (w : World) (hg : RdGr w w.heap.size v G) (hf : Gm.Fit G) (ht : Tab32 w) :
    Calls Tryz.prog 3 #[v] w fun e w' => e = .returned (.bool true) ∧ Below w.heap.size w w' := by
  have HGG := hide (fun (x : World) (h : Below w.heap.size w x) => hg.below h (Nat.le_refl _))
  have HAL := hide (fun (x : World) (h : Below w.heap.size w x) => alive13_any x (ht.below h))
  have TG := hide (fun (x : World) (h : Below w.heap.size w x) => great9_any v G w.heap.size x (HGG.out x h) h.size)
  have HN1 := hide (fun (x : World) (h : Below w.heap.size w x) => (show Calls _ _ _ _ (RowZs (Gm.stG G) x) from (cSteps_any v G w.heap.size x (HGG.out x h) hf h.size).mono fun e w' k => k.rd))
  have HN2 := hide (fun (x : World) (h : Below w.heap.size w x) => (show Calls _ _ _ _ (RowZs (Gm.stG G) x) from (rSteps_any v G w.heap.size x (HGG.out x h) hf h.size).mono fun e w' k => k.rd))
  have HC1 := hide (fun (x : World) (h : Below w.heap.size w x) => cCycles_any v G w.heap.size x (HGG.out x h) hf h.size)
  have HC2 := hide (fun (x : World) (h : Below w.heap.size w x) => rCycles_any v G w.heap.size x (HGG.out x h) hf h.size)
  have HE1 := hide (fun (x : World) (h : Below w.heap.size w x) => cEndless_any v G w.heap.size x (HGG.out x h) hf h.size)
  have HE2 := hide (fun (x : World) (h : Below w.heap.size w x) => rEndless_any v G w.heap.size x (HGG.out x h) hf h.size)
  have HO1 := hide (fun (x : World) (h : Below w.heap.size w x) => cOrder_any v G w.heap.size x (HGG.out x h) hf h.size (ht.below h))
  have HO2 := hide (fun (x : World) (h : Below w.heap.size w x) => rOrder_any v G w.heap.size x (HGG.out x h) hf h.size)
  have HSL : Hid ((Gm.stG G).length ≤ 9223372036854775807) := hide (by have := Gm.stG_len (G := G); omega)
  have HOL : Hid ((Gm.orG G).length ≤ 9223372036854775807) := hide (Gm.orG_len G)
  unfold OrAns at HO1 HO2
  generalize Gm.stG G = sN at *
  generalize Gm.orG G = oN at *
  generalize Gm.orE G = oe at *
  generalize Gm.cyG G = cy at *
  generalize Gm.enB G = eb at *
  have hbb : (eb == eb) = true := by simp
  obtain ⟨A0, c0, A1, c1, A2, c2, rfl, _⟩ := hg
  have HQ0 := hide (One.start w #[.slice A0 G.ts.length c0, .slice A1 G.ns.length c1, .slice A2 G.rs.length c2, .int .i64 G.st])
  have HXC := hide (fun (x : World) (h : One w #[.slice A0 G.ts.length c0, .slice A1 G.ns.length c1, .slice A2 G.rs.length c2, .int .i64 G.st] x) => And.intro (h.c 0 _ rfl) (And.intro (h.c 1 _ rfl) (And.intro (h.c 2 _ rfl) (h.c 3 _ rfl))))
  clear hf ht
  go_enter Tryz.func3, Tryz.ntmps3
  go_wp2_with fail
  refine (HAL.out _ HQ0.out.below).mono ?_; rintro _ w1 ⟨rfl, hb1⟩
  have HQ1 := hide (HQ0.out.on hb1)
  obtain ⟨x0, x1, x2, x3⟩ := HXC.out w1 HQ1.out
  have lg : w.heap.size < w1.heap.size := HQ1.out.size
  clear hb1
  cases hgr : Gm.great G with
  | true =>
    rw [hgr] at TG
    go_wp2_with fail
    refine (TG.out _ HQ1.out.below).mono ?_; rintro _ w2 ⟨rfl, hb2⟩
    have HQ2 := hide (HQ1.out.on hb2)
    clear hb2
    go_wp2
    go_ret
    exact ⟨rfl, HQ2.out.below⟩
  | false =>
    rw [hgr] at TG
    go_wp2_with fail
    refine (TG.out _ HQ1.out.below).mono ?_; rintro _ wa ⟨rfl, hb2⟩
    have HQa := hide (HQ1.out.on hb2)
    clear x0 x1 x2 x3 lg hb2 hgr TG
    obtain ⟨x0, x1, x2, x3⟩ := HXC.out wa HQa.out
    have lg : w.heap.size < wa.heap.size := HQa.out.size
    go_wp2_with fail
    refine (HO1.out _ HQa.out.below).mono ?_; rintro _ wb ⟨AO, cO, rfl, hr, hb⟩
    have HQb := hide (HQa.out.on hb)
    have HRO := hide hr
    clear x0 x1 x2 x3 lg hb hr
    obtain ⟨x0, x1, x2, x3⟩ := HXC.out wb HQb.out
    have lg : w.heap.size < wb.heap.size := HQb.out.size
    go_wp2_with fail
    refine (HO2.out _ HQb.out.below).mono ?_; rintro _ w2 ⟨AP, cP, rfl, hr, hb⟩
    have HQ2 := hide (HQb.out.on hb)
    have HRO2 := hide (HRO.out.up hb)
    have HRP := hide hr
    clear x0 x1 x2 x3 lg hb hr HRO
    go_upto_region 7 with fail
    have lg : w.heap.size < w2.heap.size := HQ2.out.size
    have q0 := fun y : Calm.On w2.heap.size w2 => (HXC.out y.1 (HQ2.out.on y.2)).1
    have q1 := fun y : Calm.On w2.heap.size w2 => (HXC.out y.1 (HQ2.out.on y.2)).2.1
    have q2 := fun y : Calm.On w2.heap.size w2 => (HXC.out y.1 (HQ2.out.on y.2)).2.2.1
    have q3 := fun y : Calm.On w2.heap.size w2 => (HXC.out y.1 (HQ2.out.on y.2)).2.2.2
    have HSB : Hid (∀ z, Below w2.heap.size w2 z → ∃ q : Calm.On w2.heap.size w2, z = q.1) := hide (fun z hz => ⟨⟨z, hz⟩, rfl⟩)
    have HD : Hid (Below w2.heap.size w2 w2.drew) := hide (below_drewN (Below.refl _ _) 1)
    refine CalmN.region_tree (fun x => ∃ y : Calm.On w2.heap.size w2, x = y.1) (.one [0, 2] 1 (.one [] 3 (.one [] 4 (.one [5, 6, 8] 7 (.one [] 9 (.one [10, 11, 12, 13, 15] 14 (.one [] 16 (.one [17, 18, 19, 20, 21] 22 (.fin [23, 24, 25, 26, 27, 28, 29]))))))))) (by kernel_rfl) (by kernel_rfl) (fun _ _ d _ _ h => by cases d <;> exact h) ⟨⟨w2.drew, HD.out⟩, rfl⟩ ?_
    simp only [CalmN.wpT, CalmN.wpSt, CalmN.pickOps, List.getElem?_toArray, List.getElem?_cons_zero, List.getElem?_cons_succ]
    repeat (go_big_quiet_step (fail))
    refine wpQuiet_nil ?_
    generalize w2.drew = wd at *
    have HB0 := hide HD.out
    intro KK hKK
    rw [if_pos (by rfl)]
    go_wp2_with fail
    refine (HN1.out _ (HQ2.out.on HB0.out).below).mono ?_; rintro _ v1 ⟨Aa1, ca1, rfl, hr1, hb⟩
    have HB1 := hide (HB0.out.trans (hb.mono HB0.out.size))
    have HR1 := hide hr1
    clear hb hr1
    go_wp2_with fail
    refine hKK _ _ (HSB.out _ HB1.out) (fun x => ∃ y : Calm.On w2.heap.size w2, x = y.1) (fun _ h => h) (HSB.out _ HB1.out) ?_
    clear hKK
    refine wpQuiet_nil ?_
    intro KK hKK
    rw [if_pos (by rfl)]
    go_wp2_with fail
    refine (HN2.out _ (HQ2.out.on HB1.out).below).mono ?_; rintro _ v2 ⟨Aa2, ca2, rfl, hr2, hb⟩
    have HB2 := hide (HB1.out.trans (hb.mono HB1.out.size))
    have HBO2 := hide (sets_same13 Aa1 Aa2 ca1 ca2 sN.length sN v2 (HR1.out.up hb) hr2 HSL.out rfl)
    clear hb hr2
    go_wp2_with fail
    refine hKK _ _ (HSB.out _ HB2.out) (fun x => ∃ y : Calm.On w2.heap.size w2, x = y.1) (fun _ h => h) (HSB.out _ HB2.out) ?_
    clear hKK
    refine wpQuiet_nil ?_
    intro KK hKK
    rw [if_pos (by rfl)]
    go_wp2_with fail
    refine HBO2.out.mono ?_; rintro _ v3 ⟨rfl, n3, hv3⟩
    have HB3 : Hid (Below w2.heap.size w2 v3) := hide (by rw [hv3]; exact below_drewN HB2.out _)
    clear hv3 HBO2 HR1
    go_wp2_with fail
    refine hKK _ _ (HSB.out _ HB3.out) (fun x => ∃ y : Calm.On w2.heap.size w2, x = y.1) (fun _ h => h) (HSB.out _ HB3.out) ?_
    clear hKK
    repeat (go_big_quiet_step (fail))
    refine wpQuiet_nil ?_
    intro KK hKK
    rw [if_pos (by rfl)]
    go_wp2_with fail
    refine (HC1.out _ (HQ2.out.on HB3.out).below).mono ?_; rintro _ v4 ⟨rfl, hb⟩
    have HB4 := hide (HB3.out.trans (hb.mono HB3.out.size))
    clear hb
    go_wp2_with fail
    refine hKK _ _ (HSB.out _ HB4.out) (fun x => ∃ y : Calm.On w2.heap.size w2, x = y.1) (fun _ h => h) (HSB.out _ HB4.out) ?_
    clear hKK
    refine wpQuiet_nil ?_
    intro KK hKK
    rw [if_pos (by rfl)]
    go_wp2_with fail
    refine (HC2.out _ (HQ2.out.on HB4.out).below).mono ?_; rintro _ v5 ⟨rfl, hb⟩
    have HB5 := hide (HB4.out.trans (hb.mono HB4.out.size))
    clear hb
    go_wp2_with fail
    refine hKK _ _ (HSB.out _ HB5.out) (fun x => ∃ y : Calm.On w2.heap.size w2, x = y.1) (fun _ h => h) (HSB.out _ HB5.out) ?_
    clear hKK
    repeat (go_big_quiet_step (fail))
    refine wpQuiet_nil ?_
    intro KK hKK
    rw [if_pos (by rfl)]
    go_wp2_with fail
    refine (HE1.out _ (HQ2.out.on HB5.out).below).mono ?_; rintro _ v6 ⟨rfl, hb⟩
    have HB6 := hide (HB5.out.trans (hb.mono HB5.out.size))
    clear hb
    go_wp2_with fail
    refine hKK _ _ (HSB.out _ HB6.out) (fun x => ∃ y : Calm.On w2.heap.size w2, x = y.1) (fun _ h => h) (HSB.out _ HB6.out) ?_
    clear hKK
    refine wpQuiet_nil ?_
    intro KK hKK
    rw [if_pos (by rfl)]
    go_wp2_with fail
    refine (HE2.out _ (HQ2.out.on HB6.out).below).mono ?_; rintro _ v7 ⟨rfl, hb⟩
    have HB7 := hide (HB6.out.trans (hb.mono HB6.out.size))
    clear hb
    go_wp2_with fail
    refine hKK _ _ (HSB.out _ HB7.out) (fun x => ∃ y : Calm.On w2.heap.size w2, x = y.1) (fun _ h => h) (HSB.out _ HB7.out) ?_
    clear hKK
    repeat (go_big_quiet_step (fail))
    refine wpQuiet_nil ?_
    have HBO8 := hide (ints_same13 AO AP cO cP oN.length oN v7 ((HRO2.out.below HB7.out (Nat.le_refl _)).more HB7.out.size) ((HRP.out.below HB7.out (Nat.le_refl _)).more HB7.out.size) HOL.out rfl)
    intro KK hKK
    rw [if_pos (by rfl)]
    go_wp2_with fail
    refine HBO8.out.mono ?_; rintro _ v8 ⟨rfl, n8, hv8⟩
    have HB8 : Hid (Below w2.heap.size w2 v8) := hide (by rw [hv8]; exact below_drewN HB7.out _)
    clear hv8 HBO8
    go_wp2_with fail
    refine hKK _ _ (HSB.out _ HB8.out) (fun x => ∃ y : Calm.On w2.heap.size w2, x = y.1) (fun _ h => h) (HSB.out _ HB8.out) ?_
    clear hKK
    repeat (go_big_quiet_step (fail))
    refine wpQuiet_nil ?_
    clear q0 q1 q2 q3
    go_wp2
    go_ret
    exact ⟨rfl, (HQ2.out.on HB8.out).below⟩
end Go.Proofs.YtajcegofflmoeaaGreatDoor
