/- Part of the proofs over this program: TrimRef. -/
import Derived.Test.YtajcegofflmoeaaGreatDoorKE
namespace Go.Proofs.YtajcegofflmoeaaGreatDoor
set_option maxRecDepth 100000
open Go.RowKit

theorem Gm.growP_take {tm : Bool} {rs : List Gm.Rl} {k : Nat} (h : k < rs.length) (s : List Bool) : (rs.take (k + 1)).foldl (Gm.grow1 tm) s = Gm.grow1 tm ((rs.take k).foldl (Gm.grow1 tm) s) rs[k] := by
  rw [List.take_succ_eq_append_getElem h, List.foldl_append]; rfl
theorem Gm.growP_len (tm : Bool) (rs : List Gm.Rl) (s : List Bool) : (rs.foldl (Gm.grow1 tm) s).length = s.length := ((Gm.foldl_le _ (Gm.grow1_le tm) rs s).len).symm
set_option maxHeartbeats 4000000 in
theorem rgrown_any (tm : Bool) (v : Value) (G : Gm.Gr) (B : Nat) (w : World) (hg : RdGr w B v G) (hf : Gm.Fit G) (hB : B ≤ w.heap.size) :
    Calls Tryz.prog 40 #[v, .bool tm] w (RowB (Gm.right G) (Gm.gn tm G.rs G.ns.length) w) := by
  have H1 := hide (fun (x : World) (h : Below w.heap.size w x) => rright_any v G B x (hg.below h hB) hf (Nat.le_trans hB h.size))
  obtain ⟨AT, cT, AN, cN, AR, cR, rfl, _, ⟨hlN, hmN⟩, ⟨hlR, hmR⟩, _, _, hR⟩ := hg
  have HS0 := hide (One.start w #[.slice AT G.ts.length cT, .slice AN G.ns.length cN, .slice AR G.rs.length cR, .int .i64 G.st])
  have HRl := hide hR
  have HB := hide hB
  have HFT := hide hf
  clear hf hR hB
  cases q : Gm.right G
  · rw [q] at H1
    clear q
    go_enter Tryz.func40, Tryz.ntmps40
    go_wp2_with fail
    refine (H1.out _ HS0.out.below).mono ?_; rintro _ w2 ⟨rfl, hb⟩
    have HB2 := hide (HS0.out.on hb)
    clear hb
    go_wp2
    go_ret
    exact ⟨fun h => by simp at h, fun _ => ⟨rfl, HB2.out.below⟩⟩
  · have HOK := hide (Gm.right_ok.1 q)
    have HN : Hid (G.ns.length ≤ 40) := hide (by have := (Gm.nons_iff G).1 HOK.out.n; omega)
    have HR40 : Hid (G.rs.length ≤ 40) := hide HOK.out.r40
    rw [q] at H1
    clear q
    have hnn := HN.out
    have hlen : (G.ns.length : Int) ≤ 9223372036854775807 := by omega
    have hlen2 : (G.rs.length : Int) ≤ 9223372036854775807 := by omega
    go_enter Tryz.func40, Tryz.ntmps40
    go_wp2_with fail
    refine (H1.out _ HS0.out.below).mono ?_; rintro _ w2 ⟨rfl, hb⟩
    have HB2 := hide (HS0.out.on hb)
    have q1 := HB2.out.c 1 _ rfl
    have hd1 : w.heap.size < w2.heap.size := HB2.out.size
    clear hb
    go_upto_region 4 with (at_make; refine mkO_arm rfl (.tmp 13) (.tmp 13) _ rfl Tryz.underlying39 G.ns.length _ _ rfl rfl rfl rfl (by omega) ?_; intro w3 hu3 hb3 hlt3)
    have HB3 := hide (HB2.out.on hb3)
    have HU3 := hide hu3
    have HGK : Hid (w.heap.size < w2.heap.size) := hide hd1
    clear hu3 hb3 hlt3 q1 hd1 HS0 H1
    go_wp2
    go_loopw [6] (fun vn wr => ∃ n : Nat, n ≤ G.ns.length ∧ vn = .int .i64 n ∧ Hid (UBO wr w2.heap.size (Gm.times (Gm.growP tm G.rs) n (List.replicate G.ns.length false))) ∧ Hid (One w #[.slice AT G.ts.length cT, .slice AN G.ns.length cN, .slice AR G.rs.length cR, .int .i64 G.st] wr)) (fun vn _ => G.ns.length - (intOf vn).toNat)
    case atStart => exact ⟨0, Nat.zero_le _, rfl, HU3, HB3⟩
    case round =>
      obtain ⟨n, hn, rfl, HU, HW⟩ := hrel
      obtain ⟨wo, hwo⟩ : ∃ wo : World, wo = wr := ⟨_, rfl⟩
      subst hwo
      have q1 := HW.out.c 1 _ rfl
      have ld : w.heap.size < wo.heap.size := HW.out.size
      clear HU3 HB3
      by_cases hlt : n < G.ns.length
      · have HSL : Hid ((Gm.times (Gm.growP tm G.rs) n (List.replicate G.ns.length false)).length = G.ns.length) := hide (by have := (Gm.times_le (f := Gm.growP tm G.rs) (fun s => Gm.foldl_le _ (Gm.grow1_le tm) G.rs s) n (List.replicate G.ns.length false)).len; rw [← this]; simp)
        have HNX : Hid (Gm.times (Gm.growP tm G.rs) (n + 1) (List.replicate G.ns.length false) = G.rs.foldl (Gm.grow1 tm) (Gm.times (Gm.growP tm G.rs) n (List.replicate G.ns.length false))) := hide rfl
        generalize Gm.times (Gm.growP tm G.rs) n (List.replicate G.ns.length false) = s at *
        go_wp2
        go_loopw [7] (fun vi wr => ∃ i : Nat, i ≤ G.rs.length ∧ vi = .int .i64 i ∧ Hid (UBO wr w2.heap.size ((G.rs.take i).foldl (Gm.grow1 tm) s)) ∧ Hid (One w #[.slice AT G.ts.length cT, .slice AN G.ns.length cN, .slice AR G.rs.length cR, .int .i64 G.st] wr)) (fun vi _ => G.rs.length - (intOf vi).toNat)
        case atStart => exact ⟨0, Nat.zero_le _, rfl, HU, HW⟩
        case round =>
          clear HU HW q1 ld
          obtain ⟨i, hi, rfl, HU, HW⟩ := hrel
          have q2 := HW.out.c 2 _ rfl
          have ld : w.heap.size < wr.heap.size := HW.out.size
          by_cases hlt2 : i < G.rs.length
          · obtain ⟨g, o, rfl, hgB, hc⟩ := HRl.out (by omega)
            obtain ⟨k0, ⟨A', c', k1, _, _, hri⟩, _⟩ := hc i hlt2
            have k0 := (HW.out.below.cell (p := ⟨g, o + i * 3, none⟩) (Nat.lt_of_lt_of_le hgB HB.out)).trans k0
            have k1 := (HW.out.below.cell (p := ⟨g, o + i * 3 + 1, none⟩) (Nat.lt_of_lt_of_le hgB HB.out)).trans k1
            have hgs : g < wr.heap.size := by have := HB.out; omega
            have hxm : G.rs[i] ∈ G.rs := List.getElem_mem hlt2
            have e := HFT.out.r _ hxm
            have HCL := hide ((Gm.growP_len tm (G.rs.take i) s).trans HSL.out)
            have HTK := hide (Gm.growP_take (tm := tm) hlt2 s)
            have hxl := HOK.out.lin _ hxm
            have HAL := rall_any G.rs[i].r ((G.rs.take i).foldl (Gm.grow1 tm) s) tm A' (some ⟨w2.heap.size, 0, none⟩) c' G.ns.length B wr.heap.size wr (hri.keep fun g o hg => HW.out.below.cell (p := ⟨g, o, none⟩) (Nat.lt_of_lt_of_le hg HB.out)) e.2.2 (fun z hz h => by rw [HCL.out]; exact HOK.out.sin _ hxm z hz h) (HU.out.rd0 HU.out.lt) (by have := (Gm.rule_in (HOK.out.rr _ hxm)).1; omega)
            rw [HCL.out] at HAL
            have HAL := hide HAL
            have lu := HU.out.lt
            generalize (G.rs.take i).foldl (Gm.grow1 tm) s = cur at *
            generalize G.rs[i] = x at *
            obtain ⟨m, hm⟩ : ∃ m : Nat, x.l = (m : Int) := ⟨x.l.toNat, by omega⟩
            have HM : Hid (x.l.toNat = m) := hide (by rw [hm]; simp)
            have hmn : m < cur.length := by rw [HCL.out]; omega
            have km := HU.out.cell m hmn
            have fm := HU.out.frozen m
            rw [hm] at k0 hxl
            have hmi := hxl.2
            clear hc hri e hxm hm hmn hxl
            cases ha : Gm.allB tm cur x.r
            · rw [ha] at HAL
              have HX := hide (HTK.out.trans (show Gm.grow1 tm cur x = cur by unfold Gm.grow1; rw [if_neg (by rw [ha]; decide)]))
              clear ha HTK
              go_wp2_with fail
              refine HAL.out.mono ?_; rintro _ w4 ⟨rfl, hw4⟩
              subst hw4
              go_wp2
              go_roundw
              case rel => exact ⟨i + 1, hlt2, by go_num, by rw [HX.out]; exact HU, HW⟩
              case measure => simp [intOf]; omega
            · rw [ha] at HAL
              have HX := hide (HTK.out.trans (show Gm.grow1 tm cur x = cur.set m true by unfold Gm.grow1; rw [if_pos ha, HM.out]))
              have HU2 := hide (HU.out.set_ m true)
              have HW2 : Hid (One w #[.slice AT G.ts.length cT, .slice AN G.ns.length cN, .slice (some ⟨g, o, none⟩) G.rs.length cR, .int .i64 G.st] (wr.setCell ⟨w2.heap.size, m, none⟩ (.bool true))) := hide (Below.setCell (p := ⟨w2.heap.size, m, none⟩) HW.out (by have := HGK.out; simp only; omega) _)
              clear ha HTK
              go_wp2_with fail
              refine HAL.out.mono ?_; rintro _ w4 ⟨rfl, hw4⟩
              subst hw4
              go_wp2
              go_roundw
              case rel => exact ⟨i + 1, hlt2, by go_num, by rw [HX.out]; exact HU2, HW2⟩
              case measure => simp [intOf]; omega
          · obtain rfl : i = G.rs.length := by omega
            rw [List.take_length] at HU
            go_wp2
            go_roundw
            case rel => exact ⟨n + 1, hlt, by go_num, by rw [HNX.out]; exact HU, HW⟩
            case measure => simp [intOf]; omega
      · obtain rfl : n = G.ns.length := by omega
        have HE := hide (Gm.grow_gn (tm := tm) HOK.out.lin)
        go_wp2
        go_ret
        exact ⟨fun _ => ⟨w2.heap.size, by rw [Gm.gn_len]; rfl, Nat.le_of_lt HGK.out, by rw [← HE.out]; exact HU.out, HW.out.below⟩, fun h => by simp at h⟩
set_option maxHeartbeats 1000000 in
theorem rnullable_any (v : Value) (G : Gm.Gr) (B : Nat) (w : World) (hg : RdGr w B v G) (hf : Gm.Fit G) (hB : B ≤ w.heap.size) :
    Calls Tryz.prog 32 #[v] w (RowB (Gm.right G) (Gm.gn false G.rs G.ns.length) w) := by
  have H1 := hide (fun (x : World) (h : Below w.heap.size w x) => rgrown_any false v G B x (hg.below h hB) hf (Nat.le_trans hB h.size))
  obtain ⟨AT, cT, AN, cN, AR, cR, rfl, _⟩ := hg
  have HS0 := hide (One.start w #[.slice AT G.ts.length cT, .slice AN G.ns.length cN, .slice AR G.rs.length cR, .int .i64 G.st])
  clear hf
  generalize Gm.gn false G.rs G.ns.length = T at *
  generalize Gm.right G = q at *
  cases q
  · go_enter Tryz.func32, Tryz.ntmps32
    go_wp2_with fail
    refine (H1.out _ HS0.out.below).mono ?_; intro e w2 h
    obtain ⟨rfl, hb⟩ := h.2 rfl
    have HB2 := hide (HS0.out.on hb)
    clear hb h
    go_wp2
    go_ret
    exact ⟨fun h => by simp at h, fun _ => ⟨rfl, HB2.out.below⟩⟩
  · go_enter Tryz.func32, Tryz.ntmps32
    go_wp2_with fail
    refine (H1.out _ HS0.out.below).mono ?_; intro e w2 h
    obtain ⟨g, rfl, hg, hu, hb⟩ := h.1 rfl
    have HB2 := hide (HS0.out.on hb)
    have HU := hide hu
    have HG := hide hg
    clear hb h hu hg
    go_wp2
    go_ret
    exact ⟨fun _ => ⟨g, rfl, by have := HG.out; simp at this; omega, HU.out, HB2.out.below⟩, fun h => by simp at h⟩
set_option maxHeartbeats 1000000 in
theorem rproductive_any (v : Value) (G : Gm.Gr) (B : Nat) (w : World) (hg : RdGr w B v G) (hf : Gm.Fit G) (hB : B ≤ w.heap.size) :
    Calls Tryz.prog 20 #[v] w (RowB (Gm.right G) (Gm.gn true G.rs G.ns.length) w) := by
  have H1 := hide (fun (x : World) (h : Below w.heap.size w x) => rgrown_any true v G B x (hg.below h hB) hf (Nat.le_trans hB h.size))
  obtain ⟨AT, cT, AN, cN, AR, cR, rfl, _⟩ := hg
  have HS0 := hide (One.start w #[.slice AT G.ts.length cT, .slice AN G.ns.length cN, .slice AR G.rs.length cR, .int .i64 G.st])
  clear hf
  generalize Gm.gn true G.rs G.ns.length = T at *
  generalize Gm.right G = q at *
  cases q
  · go_enter Tryz.func20, Tryz.ntmps20
    go_wp2_with fail
    refine (H1.out _ HS0.out.below).mono ?_; intro e w2 h
    obtain ⟨rfl, hb⟩ := h.2 rfl
    have HB2 := hide (HS0.out.on hb)
    clear hb h
    go_wp2
    go_ret
    exact ⟨fun h => by simp at h, fun _ => ⟨rfl, HB2.out.below⟩⟩
  · go_enter Tryz.func20, Tryz.ntmps20
    go_wp2_with fail
    refine (H1.out _ HS0.out.below).mono ?_; intro e w2 h
    obtain ⟨g, rfl, hg, hu, hb⟩ := h.1 rfl
    have HB2 := hide (HS0.out.on hb)
    have HU := hide hu
    have HG := hide hg
    clear hb h hu hg
    go_wp2
    go_ret
    exact ⟨fun _ => ⟨g, rfl, by have := HG.out; simp at this; omega, HU.out, HB2.out.below⟩, fun h => by simp at h⟩
theorem Gm.reachP_take {p : List Bool} {rs : List Gm.Rl} {k : Nat} (h : k < rs.length) (s : List Bool) : (rs.take (k + 1)).foldl (Gm.reach1 p) s = Gm.reach1 p ((rs.take k).foldl (Gm.reach1 p) s) rs[k] := by
  rw [List.take_succ_eq_append_getElem h, List.foldl_append]; rfl
theorem Gm.reachP_len (p : List Bool) (rs : List Gm.Rl) (s : List Bool) : (rs.foldl (Gm.reach1 p) s).length = s.length := ((Gm.foldl_le _ (Gm.reach1_le p) rs s).len).symm
theorem Gm.marks_take {r : List Int} {k : Nat} (h : k < r.length) (s : List Bool) : Gm.marks s (r.take (k + 1)) = Gm.mark1 (Gm.marks s (r.take k)) r[k] := by
  unfold Gm.marks
  rw [List.take_succ_eq_append_getElem h, List.foldl_append]; rfl
def Gm.rcB (p s : List Bool) (x : Gm.Rl) : Bool := s.getD x.l.toNat false && Gm.allB true p x.r
theorem Gm.reach1_yes {p s : List Bool} {x : Gm.Rl} (h : Gm.rcB p s x = true) : Gm.reach1 p s x = Gm.marks s x.r := by
  unfold Gm.rcB at h
  rw [Bool.and_eq_true] at h
  unfold Gm.reach1; rw [if_pos h]
theorem Gm.reach1_no {p s : List Bool} {x : Gm.Rl} (h : Gm.rcB p s x = false) : Gm.reach1 p s x = s := by
  unfold Gm.rcB at h
  unfold Gm.reach1; rw [if_neg (by rw [← Bool.and_eq_true, h]; decide)]
set_option maxHeartbeats 8000000 in
theorem rreachable_any (v : Value) (G : Gm.Gr) (B : Nat) (w : World) (hg : RdGr w B v G) (hf : Gm.Fit G) (hB : B ≤ w.heap.size) :
    Calls Tryz.prog 21 #[v] w (RowB (Gm.right G) (Gm.rc G) w) := by
  have H1 := hide (fun (x : World) (h : Below w.heap.size w x) => rright_any v G B x (hg.below h hB) hf (Nat.le_trans hB h.size))
  have H2 := hide (fun (x : World) (h : Below w.heap.size w x) => rproductive_any v G B x (hg.below h hB) hf (Nat.le_trans hB h.size))
  obtain ⟨AT, cT, AN, cN, AR, cR, rfl, _, ⟨hlN, hmN⟩, ⟨hlR, hmR⟩, _, _, hR⟩ := hg
  have HS0 := hide (One.start w #[.slice AT G.ts.length cT, .slice AN G.ns.length cN, .slice AR G.rs.length cR, .int .i64 G.st])
  have HRl := hide hR
  have HB := hide hB
  have HFT := hide hf
  clear hf hR hB
  cases q : Gm.right G
  · rw [q] at H1
    clear q H2
    go_enter Tryz.func21, Tryz.ntmps21
    go_wp2_with fail
    refine (H1.out _ HS0.out.below).mono ?_; rintro _ w2 ⟨rfl, hb⟩
    have HB2 := hide (HS0.out.on hb)
    clear hb
    go_wp2
    go_ret
    exact ⟨fun h => by simp at h, fun _ => ⟨rfl, HB2.out.below⟩⟩
  · have HOK := hide (Gm.right_ok.1 q)
    have HN : Hid (G.ns.length ≤ 40) := hide (by have := (Gm.nons_iff G).1 HOK.out.n; omega)
    have HR40 : Hid (G.rs.length ≤ 40) := hide HOK.out.r40
    have H2 := hide (fun x h => (show Calls _ _ _ _ (RowT _ _) from (H2.out x h).mono fun e w' k => k.1 q))
    rw [q] at H1
    clear q
    have hnn := HN.out
    have hlen : (G.ns.length : Int) ≤ 9223372036854775807 := by omega
    have hlen2 : (G.rs.length : Int) ≤ 9223372036854775807 := by omega
    obtain ⟨T, hT⟩ : ∃ x, x = Gm.gn true G.rs G.ns.length := ⟨_, rfl⟩
    have HTl : Hid (T.length = G.ns.length) := hide (by rw [hT, Gm.gn_len])
    rw [← hT] at H2
    have HT := hide hT
    clear hT
    go_enter Tryz.func21, Tryz.ntmps21
    go_wp2_with fail
    refine (H1.out _ HS0.out.below).mono ?_; rintro _ w2 ⟨rfl, hb⟩
    have HB2 := hide (HS0.out.on hb)
    have q0 := HB2.out.c 0 _ rfl
    have q1 := HB2.out.c 1 _ rfl
    have q2 := HB2.out.c 2 _ rfl
    have q3 := HB2.out.c 3 _ rfl
    have hd1 : w.heap.size < w2.heap.size := HB2.out.size
    clear hb
    go_wp2_with fail
    refine (H2.out _ HB2.out.below).mono ?_; rintro _ w3 ⟨gp, rfl, hgp, hup, hb3⟩
    rw [HTl.out]
    have HB3 := hide (HB2.out.on hb3)
    have HUP3 := hide hup
    clear q0 q1 q2 q3 hd1
    have q1 := HB3.out.c 1 _ rfl
    have hd1 : w.heap.size < w3.heap.size := HB3.out.size
    clear hup hb3 hgp
    go_upto_region 5 with (at_make; refine mkO_arm rfl (.tmp 16) (.tmp 16) _ rfl Tryz.underlying39 G.ns.length _ _ rfl rfl rfl rfl (by omega) ?_; intro w4 hu4 hb4 hlt4)
    have HB4 := hide (HB3.out.on hb4)
    have HUP4 := hide (HUP3.out.below hb4 HUP3.out.lt)
    have HGP : Hid (gp < w3.heap.size) := hide HUP3.out.lt
    have HU4 := hide hu4
    clear hu4 hb4 q1 HS0 H1 H2 HB2
    have hst := HOK.out.s0
    have hst1 := HOK.out.s1
    obtain ⟨m, hm⟩ : ∃ m : Nat, G.st = (m : Int) := ⟨G.st.toNat, by omega⟩
    have HM : Hid (G.st.toNat = m) := hide (by rw [hm]; simp)
    have q3 := HB4.out.c 3 _ rfl
    have ld : w.heap.size < w4.heap.size := HB4.out.size
    rw [hm] at q3 hst1
    have k3 := HU4.out.cell m (by simp; omega)
    have f3 := HU4.out.frozen m
    clear hm hst
    obtain ⟨wv, hwv⟩ : ∃ y, y = w4.setCell ⟨w3.heap.size, m, none⟩ (.bool true) := ⟨_, rfl⟩
    have HBv : Hid (One w #[.slice AT G.ts.length cT, .slice AN G.ns.length cN, .slice AR G.rs.length cR, .int .i64 G.st] wv) := hide (by rw [hwv]; exact Below.setCell (p := ⟨w3.heap.size, m, none⟩) HB4.out (by simp only; omega) _)
    have HUv : Hid (UBO wv w3.heap.size ((List.replicate G.ns.length false).set m true)) := hide (by rw [hwv]; exact HU4.out.set_ m true)
    have HPv : Hid (UBO wv gp T) := hide (by rw [hwv]; exact UBO.far HUP4.out (by have := HGP.out; simp only; omega) _)
    have HGK : Hid (w.heap.size < w3.heap.size) := hide hd1
    clear HB3 HB4 HU4 HUP3 HUP4
    go_upto_region 6 with fail
    rw [← hwv]
    obtain ⟨gk, hgk⟩ : ∃ gk, gk = w3.heap.size := ⟨_, rfl⟩
    rw [← hgk] at HUv HGK HGP ⊢
    have HS0 := hide (Gm.reach_rc HOK.out.lin HOK.out.sin HOK.out.s0 HOK.out.s1)
    rw [HM.out, ← HT.out] at HS0
    have HL0 : Hid (((List.replicate G.ns.length false).set m true).length = G.ns.length) := hide (by simp)
    generalize (List.replicate G.ns.length false).set m true = s0 at *
    clear k3 f3 q3 ld hlt4 hd1 hwv hgk hst1
    go_wp2
    go_loopw [5] (fun vn wr => ∃ n : Nat, n ≤ G.ns.length ∧ vn = .int .i64 n ∧ Hid (UBO wr gk (Gm.times (Gm.reachP T G.rs) n s0)) ∧ Hid (wv.grownBy wr (some gk))) (fun vn _ => G.ns.length - (intOf vn).toNat)
    case atStart => exact ⟨0, Nat.zero_le _, rfl, HUv, hide (World.grownBy.refl _ _)⟩
    case round =>
      obtain ⟨n, hn, rfl, HU, HW⟩ := hrel
      obtain ⟨wo, hwo⟩ : ∃ wo : World, wo = wr := ⟨_, rfl⟩
      subst hwo
      have q1 := kept_cell HW.out (HBv.out.c 1 _ rfl) (by have := HGK.out; omega)
      have ld := block_lt_of_cell q1
      by_cases hlt : n < G.ns.length
      · have HSL : Hid ((Gm.times (Gm.reachP T G.rs) n s0).length = G.ns.length) := hide (by have := (Gm.times_le (f := Gm.reachP T G.rs) (fun s => Gm.foldl_le _ (Gm.reach1_le T) G.rs s) n s0).len; rw [← this]; exact HL0.out)
        have HNX : Hid (Gm.times (Gm.reachP T G.rs) (n + 1) s0 = G.rs.foldl (Gm.reach1 T) (Gm.times (Gm.reachP T G.rs) n s0)) := hide rfl
        generalize Gm.times (Gm.reachP T G.rs) n s0 = s at *
        go_wp2
        go_loopw [6] (fun vi wr => ∃ i : Nat, i ≤ G.rs.length ∧ vi = .int .i64 i ∧ Hid (UBO wr gk ((G.rs.take i).foldl (Gm.reach1 T) s)) ∧ Hid (wv.grownBy wr (some gk))) (fun vi _ => G.rs.length - (intOf vi).toNat)
        case atStart => exact ⟨0, Nat.zero_le _, rfl, HU, HW⟩
        case round =>
          clear HU HW q1 ld
          obtain ⟨i, hi, rfl, HU, HW⟩ := hrel
          obtain ⟨wi, hwi⟩ : ∃ wi : World, wi = wr := ⟨_, rfl⟩
          subst hwi
          have q2 := kept_cell HW.out (HBv.out.c 2 _ rfl) (by have := HGK.out; omega)
          have ld := block_lt_of_cell q2
          by_cases hlt2 : i < G.rs.length
          · obtain ⟨g, o, rfl, hgB, hc⟩ := HRl.out (by omega)
            obtain ⟨k0, ⟨A', c', k1, _, _, hri⟩, k2⟩ := hc i hlt2
            have hBv : B ≤ wv.heap.size := Nat.le_trans HB.out HBv.out.below.size
            have hBk : B ≤ gk := Nat.le_trans HB.out (Nat.le_of_lt HGK.out)
            have HCV := hide (fun (y : World) (h : wv.grownBy y (some gk)) (o' : Nat) => (grown_cell (o := o') h hBv hBk hgB).trans (HBv.out.below.cell (p := ⟨g, o', none⟩) (Nat.lt_of_lt_of_le hgB HB.out)))
            have k0 := (HCV.out _ HW.out _).trans k0
            have k1 := (HCV.out _ HW.out _).trans k1
            have k2 := (HCV.out _ HW.out _).trans k2
            have hgs : g < wi.heap.size := block_lt_of_cell k0
            have hxm : G.rs[i] ∈ G.rs := List.getElem_mem hlt2
            have e := HFT.out.r _ hxm
            have HCL := hide ((Gm.reachP_len T (G.rs.take i) s).trans HSL.out)
            have HTK := hide (Gm.reachP_take (p := T) hlt2 s)
            have hxl := HOK.out.lin _ hxm
            have hRI : ∀ y : World, wv.grownBy y (some gk) → RdI y B A' G.rs[i].r := fun y h => hri.keep fun g o hg => (grown_cell h hBv hBk hg).trans (HBv.out.below.cell (p := ⟨g, o, none⟩) (Nat.lt_of_lt_of_le hg HB.out))
            have HAL := hide (fun (y : World) (h : wv.grownBy y (some gk)) => rall_any G.rs[i].r T true A' (some ⟨gp, 0, none⟩) c' G.ns.length B y.heap.size y (hRI y h) e.2.2 (fun z hz h => by rw [HTl.out]; exact HOK.out.sin _ hxm z hz h) ((HPv.out.grown h (fun e => by injection e with e; have := HGP.out; omega)).rd0 (Nat.lt_of_lt_of_le HPv.out.lt h.size)) (by have := (Gm.rule_in (HOK.out.rr _ hxm)).1; omega))
            rw [HTl.out] at HAL
            have HRI := hide hRI
            have HSN := hide (HOK.out.sin _ hxm)
            have hr6 := (Gm.rule_in (HOK.out.rr _ hxm)).1
            have HIN := hide e.2.2
            generalize (G.rs.take i).foldl (Gm.reach1 T) s = cur at *
            generalize G.rs[i] = x at *
            obtain ⟨l, r, pz⟩ := x
            simp only at k0 k1 k2 HAL HRI HSN hr6 hxl HIN
            obtain ⟨m, rfl⟩ : ∃ m : Nat, l = (m : Int) := ⟨l.toNat, by omega⟩
            have hmn : m < cur.length := by rw [HCL.out]; omega
            have hmi := hxl.2
            have lu := HU.out.lt
            have hrl : (r.length : Int) ≤ 9223372036854775807 := by omega
            have HE0 : Hid (Gm.rcB T cur ⟨m, r, pz⟩ = (cur.getD m false && Gm.allB true T r)) := hide (by simp [Gm.rcB])
            have HX0 := hide (heap_alloc_new wi (.cells #[.int .i64 m, .slice A' r.length c', .int .i64 pz] 51))
            have HU1 := hide (HU.out.alloc (.cells #[.int .i64 m, .slice A' r.length c', .int .i64 pz] 51))
            have HW1 := hide (only_alloc HW.out (.cells #[.int .i64 m, .slice A' r.length c', .int .i64 pz] 51))
            clear hc hri e hxm hxl hRI hBv hBk HCV
            go_wp2
            go_loopw [8] (fun vk wr => ∃ k : Nat, k ≤ r.length ∧ vk = .int .i64 k ∧ Hid (Gm.rcB T cur ⟨m, r, pz⟩ = false → k = 0) ∧ Hid (UBO wr gk (Gm.marks cur (r.take k))) ∧ Hid (wv.grownBy wr (some gk)) ∧ Hid (wr.heap[wi.heap.size]? = some (.cells #[.int .i64 m, .slice A' r.length c', .int .i64 pz] 51 (0, 0)))) (fun vk _ => r.length - (intOf vk).toNat)
            case atStart => exact ⟨0, Nat.zero_le _, rfl, hide (fun _ => rfl), by simpa [Gm.marks] using HU1, HW1, HX0⟩
            case round =>
              clear HU HW HU1 HW1 HX0 k0 k1 k2
              obtain ⟨k, hk, rfl, HK, HU, HW, HX⟩ := hrel
              have d0 := cell_of_row wr _ 0 _ _ _ HX.out
              have d1 := cell_of_row wr _ 1 _ _ _ HX.out
              have hd := (Array.getElem?_eq_some_iff.1 HX.out).1
              have lk := HU.out.lt
              have HML : Hid ((Gm.marks cur (r.take k)).length = G.ns.length) := hide ((Gm.marks_le cur _).len.symm.trans HCL.out)
              have km := HU.out.cell m (by rw [HML.out]; omega)
              by_cases hlt3 : k < r.length
              · have HAW := hide (HAL.out wr HW.out)
                cases hc : Gm.rcB T cur ⟨m, r, pz⟩
                · obtain rfl := HK.out hc
                  have HTK2 := hide (HTK.out.trans (Gm.reach1_no hc))
                  rw [List.take_zero, show Gm.marks cur [] = cur from rfl] at HU km
                  have HE1 := hide (HE0.out.symm.trans hc)
                  cases hv : cur.getD m false
                  · rw [hv] at km
                    clear hc hv HE1 HAW
                    go_wp2
                    go_roundw
                    case rel => exact ⟨i + 1, hlt2, by go_num, by rw [HTK2.out]; exact HU, HW⟩
                    case measure => simp [intOf]; omega
                  · rw [hv] at km
                    have ha : Gm.allB true T r = false := by have := HE1.out; rw [hv] at this; simpa using this
                    rw [ha] at HAW
                    clear hc hv HE1 ha
                    go_wp2_with fail
                    refine HAW.out.mono ?_; rintro _ w5 ⟨rfl, hw5⟩
                    subst hw5
                    go_wp2
                    go_roundw
                    case rel => exact ⟨i + 1, hlt2, by go_num, by rw [HTK2.out]; exact HU, HW⟩
                    case measure => simp [intOf]; omega
                · have h2 := HE0.out.symm.trans hc
                  rw [Bool.and_eq_true] at h2
                  rw [(Gm.marks_le cur (r.take k)).get m h2.1] at km
                  rw [h2.2] at HAW
                  obtain ⟨g5, o5, rfl, hg5, hc5⟩ := HRI.out wr HW.out (by omega)
                  have k5 := hc5 k hlt3
                  rw [L.gd_lt hlt3] at k5
                  have HSZ := hide (HSN.out _ (List.getElem_mem hlt3))
                  have HIZ := HIN.out _ (List.getElem_mem hlt3)
                  have HMT := hide (Gm.marks_take hlt3 cur)
                  have HKn := HK
                  have l5 := block_lt_of_cell k5
                  unfold Gm.In at HIZ
                  generalize r[k] = z at *
                  clear hc5 h2
                  by_cases hz : z < 0
                  · have hz1 := HSZ.out hz
                    obtain ⟨j, hj⟩ : ∃ j : Nat, -1 - z = (j : Int) := ⟨(-1 - z).toNat, by omega⟩
                    have hw1 : IntKind.i64.wrap (-1 - z) = (j : Int) := by rw [IntWalk.i64_in _ (by omega)]; exact hj
                    have HMT2 : Hid (Gm.marks cur (r.take (k + 1)) = (Gm.marks cur (r.take k)).set j true) := hide (HMT.out.trans (by unfold Gm.mark1; rw [if_pos hz, hj]; simp))
                    have hjn : j < (Gm.marks cur (r.take k)).length := by rw [HML.out]; omega
                    have HU2 := hide (HU.out.set_ j true)
                    have HW2 := hide (only_set HW.out j (.bool true))
                    have HX2 := hide ((Below.heap_setCell wr ⟨gk, j, none⟩ (.bool true) wi.heap.size (by simp only; omega)).trans HX.out)
                    have kj := HU.out.cell j hjn
                    have fj := HU.out.frozen j
                    have hji : (j : Int) < (G.ns.length : Int) := by omega
                    have hz0 : decide (z < 0) = true := decide_eq_true hz
                    clear hz hz1 hj HMT hc HIZ hjn
                    go_wp2_with fail
                    refine HAW.out.mono ?_; rintro _ w5 ⟨rfl, hw5⟩
                    subst hw5
                    go_wp2
                    go_roundw
                    case rel => exact ⟨k + 1, hlt3, by go_num, hide (fun h => by cases h), by rw [HMT2.out]; exact HU2, HW2, HX2⟩
                    case measure => simp [intOf]; omega
                  · have HMT2 : Hid (Gm.marks cur (r.take (k + 1)) = Gm.marks cur (r.take k)) := hide (HMT.out.trans (by unfold Gm.mark1; rw [if_neg hz]))
                    have hz0 : decide (z < 0) = false := decide_eq_false hz
                    clear hz HMT hc HIZ
                    go_wp2_with fail
                    refine HAW.out.mono ?_; rintro _ w5 ⟨rfl, hw5⟩
                    subst hw5
                    go_wp2
                    go_roundw
                    case rel => exact ⟨k + 1, hlt3, by go_num, hide (fun h => by cases h), by rw [HMT2.out]; exact HU, HW, HX⟩
                    case measure => simp [intOf]; omega
              · obtain rfl : k = r.length := by omega
                have HTK2 : Hid ((G.rs.take (i + 1)).foldl (Gm.reach1 T) s = Gm.marks cur (r.take r.length)) := hide (HTK.out.trans (by
                  cases hc : Gm.rcB T cur ⟨m, r, pz⟩
                  · rw [Gm.reach1_no hc]
                    have := HK.out hc
                    rw [List.eq_nil_of_length_eq_zero this]; rfl
                  · rw [Gm.reach1_yes hc, List.take_length]))
                go_wp2
                go_roundw
                case rel => exact ⟨i + 1, hlt2, by go_num, by rw [HTK2.out]; exact HU, HW⟩
                case measure => simp [intOf]; omega
          · obtain rfl : i = G.rs.length := by omega
            rw [List.take_length] at HU
            go_wp2
            go_roundw
            case rel => exact ⟨n + 1, hlt, by go_num, by rw [HNX.out]; exact HU, HW⟩
            case measure => simp [intOf]; omega
      · obtain rfl : n = G.ns.length := by omega
        go_wp2
        go_ret
        exact ⟨fun _ => ⟨gk, by rw [Gm.rc_len]; rfl, Nat.le_of_lt HGK.out, by rw [← HS0.out]; exact HU.out, below_only HBv.out.below HW.out (Nat.le_of_lt HGK.out) HBv.out.below.size⟩, fun h => by simp at h⟩
end Go.Proofs.YtajcegofflmoeaaGreatDoor
