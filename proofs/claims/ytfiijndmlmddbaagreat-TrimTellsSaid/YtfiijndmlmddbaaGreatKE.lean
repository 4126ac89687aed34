/- Part of the proofs over this program: TrimRef, TrimD, TrimK, YaccW, LexToks, YaccRd, YaccP, YaccDecl, Ref8R, YaccSource, YaccOf, ScanL. -/
import Derived.Deep.DeepCutAuto
import Derived.Defers
import Derived.Recover
import Derived.Test.YtfiijndmlmddbaaGreatKD
namespace Go.Proofs.YtfiijndmlmddbaaGreat
set_option maxRecDepth 100000
open Go.RowKit

theorem Gm.growP_take {tm : Bool} {rs : List Gm.Rl} {k : Nat} (h : k < rs.length) (s : List Bool) : (rs.take (k + 1)).foldl (Gm.grow1 tm) s = Gm.grow1 tm ((rs.take k).foldl (Gm.grow1 tm) s) rs[k] := by
  rw [List.take_succ_eq_append_getElem h, List.foldl_append]; rfl
theorem Gm.growP_len (tm : Bool) (rs : List Gm.Rl) (s : List Bool) : (rs.foldl (Gm.grow1 tm) s).length = s.length := ((Gm.foldl_le _ (Gm.grow1_le tm) rs s).len).symm
set_option maxHeartbeats 4000000 in
theorem rgrown_any (tm : Bool) (v : Value) (G : Gm.Gr) (B : Nat) (w : World) (hg : RdGr w B v G) (hf : Gm.Fit G) (hB : B ≤ w.heap.size) :
    Calls Tryz.prog 32 #[v, .bool tm] w (RowB (Gm.right G) (Gm.gn tm G.rs G.ns.length) w) := by
  have H1 := hide (fun (x : World) (h : Below w.heap.size w x) => rright_any v G B x (hg.below h hB) hf (Nat.le_trans hB h.size))
  obtain ⟨AT, cT, AN, cN, AR, cR, rfl, _, ⟨hlN, hmN⟩, ⟨hlR, hmR⟩, _, _, hR⟩ := hg
  have HS0 := hide (One.start w #[.slice AT G.ts.length cT, .slice AN G.ns.length cN, .slice AR G.rs.length cR, .int .i64 G.st])
  have HRl := hide hR
  have HB := hide hB
  have HFT := hide hf
  clear hf hR hB
  cases q : Gm.right G
  · rw [q] at H1
    clear q
    go_enter Tryz.func32, Tryz.ntmps32
    go_wp2_with fail
    refine (H1.out _ HS0.out.below).mono ?_; rintro _ w2 ⟨rfl, hb⟩
    have HB2 := hide (HS0.out.on hb)
    clear hb
    go_wp2
    go_ret
    exact ⟨fun h => by simp at h, fun _ => ⟨rfl, HB2.out.below⟩⟩
  · have HOK := hide (Gm.right_ok.1 q)
    have HN : Hid (G.ns.length ≤ 40) := hide (by have := (Gm.nons_iff G).1 HOK.out.n; omega)
    have HR40 : Hid (G.rs.length ≤ 40) := hide HOK.out.r40
    rw [q] at H1
    clear q
    have hnn := HN.out
    have hlen : (G.ns.length : Int) ≤ 9223372036854775807 := by omega
    have hlen2 : (G.rs.length : Int) ≤ 9223372036854775807 := by omega
    go_enter Tryz.func32, Tryz.ntmps32
    go_wp2_with fail
    refine (H1.out _ HS0.out.below).mono ?_; rintro _ w2 ⟨rfl, hb⟩
    have HB2 := hide (HS0.out.on hb)
    have q1 := HB2.out.c 1 _ rfl
    have hd1 : w.heap.size < w2.heap.size := HB2.out.size
    clear hb
    go_upto_region 4 with (at_make; refine mkO_arm rfl (.tmp 13) (.tmp 13) _ rfl Tryz.underlying30 G.ns.length _ _ rfl rfl rfl rfl (by omega) ?_; intro w3 hu3 hb3 hlt3)
    have HB3 := hide (HB2.out.on hb3)
    have HU3 := hide hu3
    have HGK : Hid (w.heap.size < w2.heap.size) := hide hd1
    clear hu3 hb3 hlt3 q1 hd1 HS0 H1
    go_wp2
    go_loopw [6] (fun vn wr => ∃ n : Nat, n ≤ G.ns.length ∧ vn = .int .i64 n ∧ Hid (UBO wr w2.heap.size (Gm.times (Gm.growP tm G.rs) n (List.replicate G.ns.length false))) ∧ Hid (One w #[.slice AT G.ts.length cT, .slice AN G.ns.length cN, .slice AR G.rs.length cR, .int .i64 G.st] wr)) (fun vn _ => G.ns.length - (intOf vn).toNat)
    case atStart => exact ⟨0, Nat.zero_le _, rfl, HU3, HB3⟩
    case round =>
      obtain ⟨n, hn, rfl, HU, HW⟩ := hrel
      obtain ⟨wo, hwo⟩ : ∃ wo : World, wo = wr := ⟨_, rfl⟩
      subst hwo
      have q1 := HW.out.c 1 _ rfl
      have ld : w.heap.size < wo.heap.size := HW.out.size
      clear HU3 HB3
      by_cases hlt : n < G.ns.length
      · have HSL : Hid ((Gm.times (Gm.growP tm G.rs) n (List.replicate G.ns.length false)).length = G.ns.length) := hide (by have := (Gm.times_le (f := Gm.growP tm G.rs) (fun s => Gm.foldl_le _ (Gm.grow1_le tm) G.rs s) n (List.replicate G.ns.length false)).len; rw [← this]; simp)
        have HNX : Hid (Gm.times (Gm.growP tm G.rs) (n + 1) (List.replicate G.ns.length false) = G.rs.foldl (Gm.grow1 tm) (Gm.times (Gm.growP tm G.rs) n (List.replicate G.ns.length false))) := hide rfl
        generalize Gm.times (Gm.growP tm G.rs) n (List.replicate G.ns.length false) = s at *
        go_wp2
        go_loopw [7] (fun vi wr => ∃ i : Nat, i ≤ G.rs.length ∧ vi = .int .i64 i ∧ Hid (UBO wr w2.heap.size ((G.rs.take i).foldl (Gm.grow1 tm) s)) ∧ Hid (One w #[.slice AT G.ts.length cT, .slice AN G.ns.length cN, .slice AR G.rs.length cR, .int .i64 G.st] wr)) (fun vi _ => G.rs.length - (intOf vi).toNat)
        case atStart => exact ⟨0, Nat.zero_le _, rfl, HU, HW⟩
        case round =>
          clear HU HW q1 ld
          obtain ⟨i, hi, rfl, HU, HW⟩ := hrel
          have q2 := HW.out.c 2 _ rfl
          have ld : w.heap.size < wr.heap.size := HW.out.size
          by_cases hlt2 : i < G.rs.length
          · obtain ⟨g, o, rfl, hgB, hc⟩ := HRl.out (by omega)
            obtain ⟨k0, ⟨A', c', k1, _, _, hri⟩, _⟩ := hc i hlt2
            have k0 := (HW.out.below.cell (p := ⟨g, o + i * 3, none⟩) (Nat.lt_of_lt_of_le hgB HB.out)).trans k0
            have k1 := (HW.out.below.cell (p := ⟨g, o + i * 3 + 1, none⟩) (Nat.lt_of_lt_of_le hgB HB.out)).trans k1
            have hgs : g < wr.heap.size := by have := HB.out; omega
            have hxm : G.rs[i] ∈ G.rs := List.getElem_mem hlt2
            have e := HFT.out.r _ hxm
            have HCL := hide ((Gm.growP_len tm (G.rs.take i) s).trans HSL.out)
            have HTK := hide (Gm.growP_take (tm := tm) hlt2 s)
            have hxl := HOK.out.lin _ hxm
            have HAL := rall_any G.rs[i].r ((G.rs.take i).foldl (Gm.grow1 tm) s) tm A' (some ⟨w2.heap.size, 0, none⟩) c' G.ns.length B wr.heap.size wr (hri.keep fun g o hg => HW.out.below.cell (p := ⟨g, o, none⟩) (Nat.lt_of_lt_of_le hg HB.out)) e.2.2 (fun z hz h => by rw [HCL.out]; exact HOK.out.sin _ hxm z hz h) (HU.out.rd0 HU.out.lt) (by have := (Gm.rule_in (HOK.out.rr _ hxm)).1; omega)
            rw [HCL.out] at HAL
            have HAL := hide HAL
            have lu := HU.out.lt
            generalize (G.rs.take i).foldl (Gm.grow1 tm) s = cur at *
            generalize G.rs[i] = x at *
            obtain ⟨m, hm⟩ : ∃ m : Nat, x.l = (m : Int) := ⟨x.l.toNat, by omega⟩
            have HM : Hid (x.l.toNat = m) := hide (by rw [hm]; simp)
            have hmn : m < cur.length := by rw [HCL.out]; omega
            have km := HU.out.cell m hmn
            have fm := HU.out.frozen m
            rw [hm] at k0 hxl
            have hmi := hxl.2
            clear hc hri e hxm hm hmn hxl
            cases ha : Gm.allB tm cur x.r
            · rw [ha] at HAL
              have HX := hide (HTK.out.trans (show Gm.grow1 tm cur x = cur by unfold Gm.grow1; rw [if_neg (by rw [ha]; decide)]))
              clear ha HTK
              go_wp2_with fail
              refine HAL.out.mono ?_; rintro _ w4 ⟨rfl, hw4⟩
              subst hw4
              go_wp2
              go_roundw
              case rel => exact ⟨i + 1, hlt2, by go_num, by rw [HX.out]; exact HU, HW⟩
              case measure => simp [intOf]; omega
            · rw [ha] at HAL
              have HX := hide (HTK.out.trans (show Gm.grow1 tm cur x = cur.set m true by unfold Gm.grow1; rw [if_pos ha, HM.out]))
              have HU2 := hide (HU.out.set_ m true)
              have HW2 : Hid (One w #[.slice AT G.ts.length cT, .slice AN G.ns.length cN, .slice (some ⟨g, o, none⟩) G.rs.length cR, .int .i64 G.st] (wr.setCell ⟨w2.heap.size, m, none⟩ (.bool true))) := hide (Below.setCell (p := ⟨w2.heap.size, m, none⟩) HW.out (by have := HGK.out; simp only; omega) _)
              clear ha HTK
              go_wp2_with fail
              refine HAL.out.mono ?_; rintro _ w4 ⟨rfl, hw4⟩
              subst hw4
              go_wp2
              go_roundw
              case rel => exact ⟨i + 1, hlt2, by go_num, by rw [HX.out]; exact HU2, HW2⟩
              case measure => simp [intOf]; omega
          · obtain rfl : i = G.rs.length := by omega
            rw [List.take_length] at HU
            go_wp2
            go_roundw
            case rel => exact ⟨n + 1, hlt, by go_num, by rw [HNX.out]; exact HU, HW⟩
            case measure => simp [intOf]; omega
      · obtain rfl : n = G.ns.length := by omega
        have HE := hide (Gm.grow_gn (tm := tm) HOK.out.lin)
        go_wp2
        go_ret
        exact ⟨fun _ => ⟨w2.heap.size, by rw [Gm.gn_len]; rfl, Nat.le_of_lt HGK.out, by rw [← HE.out]; exact HU.out, HW.out.below⟩, fun h => by simp at h⟩
set_option maxHeartbeats 1000000 in
theorem rnullable_any (v : Value) (G : Gm.Gr) (B : Nat) (w : World) (hg : RdGr w B v G) (hf : Gm.Fit G) (hB : B ≤ w.heap.size) :
    Calls Tryz.prog 11 #[v] w (RowB (Gm.right G) (Gm.gn false G.rs G.ns.length) w) := by
  have H1 := hide (fun (x : World) (h : Below w.heap.size w x) => rgrown_any false v G B x (hg.below h hB) hf (Nat.le_trans hB h.size))
  obtain ⟨AT, cT, AN, cN, AR, cR, rfl, _⟩ := hg
  have HS0 := hide (One.start w #[.slice AT G.ts.length cT, .slice AN G.ns.length cN, .slice AR G.rs.length cR, .int .i64 G.st])
  clear hf
  generalize Gm.gn false G.rs G.ns.length = T at *
  generalize Gm.right G = q at *
  cases q
  · go_enter Tryz.func11, Tryz.ntmps11
    go_wp2_with fail
    refine (H1.out _ HS0.out.below).mono ?_; intro e w2 h
    obtain ⟨rfl, hb⟩ := h.2 rfl
    have HB2 := hide (HS0.out.on hb)
    clear hb h
    go_wp2
    go_ret
    exact ⟨fun h => by simp at h, fun _ => ⟨rfl, HB2.out.below⟩⟩
  · go_enter Tryz.func11, Tryz.ntmps11
    go_wp2_with fail
    refine (H1.out _ HS0.out.below).mono ?_; intro e w2 h
    obtain ⟨g, rfl, hg, hu, hb⟩ := h.1 rfl
    have HB2 := hide (HS0.out.on hb)
    have HU := hide hu
    have HG := hide hg
    clear hb h hu hg
    go_wp2
    go_ret
    exact ⟨fun _ => ⟨g, rfl, by have := HG.out; simp at this; omega, HU.out, HB2.out.below⟩, fun h => by simp at h⟩
set_option maxHeartbeats 1000000 in
theorem rproductive_any (v : Value) (G : Gm.Gr) (B : Nat) (w : World) (hg : RdGr w B v G) (hf : Gm.Fit G) (hB : B ≤ w.heap.size) :
    Calls Tryz.prog 13 #[v] w (RowB (Gm.right G) (Gm.gn true G.rs G.ns.length) w) := by
  have H1 := hide (fun (x : World) (h : Below w.heap.size w x) => rgrown_any true v G B x (hg.below h hB) hf (Nat.le_trans hB h.size))
  obtain ⟨AT, cT, AN, cN, AR, cR, rfl, _⟩ := hg
  have HS0 := hide (One.start w #[.slice AT G.ts.length cT, .slice AN G.ns.length cN, .slice AR G.rs.length cR, .int .i64 G.st])
  clear hf
  generalize Gm.gn true G.rs G.ns.length = T at *
  generalize Gm.right G = q at *
  cases q
  · go_enter Tryz.func13, Tryz.ntmps13
    go_wp2_with fail
    refine (H1.out _ HS0.out.below).mono ?_; intro e w2 h
    obtain ⟨rfl, hb⟩ := h.2 rfl
    have HB2 := hide (HS0.out.on hb)
    clear hb h
    go_wp2
    go_ret
    exact ⟨fun h => by simp at h, fun _ => ⟨rfl, HB2.out.below⟩⟩
  · go_enter Tryz.func13, Tryz.ntmps13
    go_wp2_with fail
    refine (H1.out _ HS0.out.below).mono ?_; intro e w2 h
    obtain ⟨g, rfl, hg, hu, hb⟩ := h.1 rfl
    have HB2 := hide (HS0.out.on hb)
    have HU := hide hu
    have HG := hide hg
    clear hb h hu hg
    go_wp2
    go_ret
    exact ⟨fun _ => ⟨g, rfl, by have := HG.out; simp at this; omega, HU.out, HB2.out.below⟩, fun h => by simp at h⟩
theorem Gm.reachP_take {p : List Bool} {rs : List Gm.Rl} {k : Nat} (h : k < rs.length) (s : List Bool) : (rs.take (k + 1)).foldl (Gm.reach1 p) s = Gm.reach1 p ((rs.take k).foldl (Gm.reach1 p) s) rs[k] := by
  rw [List.take_succ_eq_append_getElem h, List.foldl_append]; rfl
theorem Gm.reachP_len (p : List Bool) (rs : List Gm.Rl) (s : List Bool) : (rs.foldl (Gm.reach1 p) s).length = s.length := ((Gm.foldl_le _ (Gm.reach1_le p) rs s).len).symm
theorem Gm.marks_take {r : List Int} {k : Nat} (h : k < r.length) (s : List Bool) : Gm.marks s (r.take (k + 1)) = Gm.mark1 (Gm.marks s (r.take k)) r[k] := by
  unfold Gm.marks
  rw [List.take_succ_eq_append_getElem h, List.foldl_append]; rfl
/-- Is a rule in use, as Reachable asks? -/
def Gm.rcB (p s : List Bool) (x : Gm.Rl) : Bool := s.getD x.l.toNat false && Gm.allB true p x.r
theorem Gm.reach1_yes {p s : List Bool} {x : Gm.Rl} (h : Gm.rcB p s x = true) : Gm.reach1 p s x = Gm.marks s x.r := by
  unfold Gm.rcB at h
  rw [Bool.and_eq_true] at h
  unfold Gm.reach1; rw [if_pos h]
theorem Gm.reach1_no {p s : List Bool} {x : Gm.Rl} (h : Gm.rcB p s x = false) : Gm.reach1 p s x = s := by
  unfold Gm.rcB at h
  unfold Gm.reach1; rw [if_neg (by rw [← Bool.and_eq_true, h]; decide)]
set_option maxHeartbeats 8000000 in
theorem rreachable_any (v : Value) (G : Gm.Gr) (B : Nat) (w : World) (hg : RdGr w B v G) (hf : Gm.Fit G) (hB : B ≤ w.heap.size) :
    Calls Tryz.prog 15 #[v] w (RowB (Gm.right G) (Gm.rc G) w) := by
  have H1 := hide (fun (x : World) (h : Below w.heap.size w x) => rright_any v G B x (hg.below h hB) hf (Nat.le_trans hB h.size))
  have H2 := hide (fun (x : World) (h : Below w.heap.size w x) => rproductive_any v G B x (hg.below h hB) hf (Nat.le_trans hB h.size))
  obtain ⟨AT, cT, AN, cN, AR, cR, rfl, _, ⟨hlN, hmN⟩, ⟨hlR, hmR⟩, _, _, hR⟩ := hg
  have HS0 := hide (One.start w #[.slice AT G.ts.length cT, .slice AN G.ns.length cN, .slice AR G.rs.length cR, .int .i64 G.st])
  have HRl := hide hR
  have HB := hide hB
  have HFT := hide hf
  clear hf hR hB
  cases q : Gm.right G
  · rw [q] at H1
    clear q H2
    go_enter Tryz.func15, Tryz.ntmps15
    go_wp2_with fail
    refine (H1.out _ HS0.out.below).mono ?_; rintro _ w2 ⟨rfl, hb⟩
    have HB2 := hide (HS0.out.on hb)
    clear hb
    go_wp2
    go_ret
    exact ⟨fun h => by simp at h, fun _ => ⟨rfl, HB2.out.below⟩⟩
  · have HOK := hide (Gm.right_ok.1 q)
    have HN : Hid (G.ns.length ≤ 40) := hide (by have := (Gm.nons_iff G).1 HOK.out.n; omega)
    have HR40 : Hid (G.rs.length ≤ 40) := hide HOK.out.r40
    have H2 := hide (fun x h => (show Calls _ _ _ _ (RowT _ _) from (H2.out x h).mono fun e w' k => k.1 q))
    rw [q] at H1
    clear q
    have hnn := HN.out
    have hlen : (G.ns.length : Int) ≤ 9223372036854775807 := by omega
    have hlen2 : (G.rs.length : Int) ≤ 9223372036854775807 := by omega
    obtain ⟨T, hT⟩ : ∃ x, x = Gm.gn true G.rs G.ns.length := ⟨_, rfl⟩
    have HTl : Hid (T.length = G.ns.length) := hide (by rw [hT, Gm.gn_len])
    rw [← hT] at H2
    have HT := hide hT
    clear hT
    go_enter Tryz.func15, Tryz.ntmps15
    go_wp2_with fail
    refine (H1.out _ HS0.out.below).mono ?_; rintro _ w2 ⟨rfl, hb⟩
    have HB2 := hide (HS0.out.on hb)
    have q0 := HB2.out.c 0 _ rfl
    have q1 := HB2.out.c 1 _ rfl
    have q2 := HB2.out.c 2 _ rfl
    have q3 := HB2.out.c 3 _ rfl
    have hd1 : w.heap.size < w2.heap.size := HB2.out.size
    clear hb
    go_wp2_with fail
    refine (H2.out _ HB2.out.below).mono ?_; rintro _ w3 ⟨gp, rfl, hgp, hup, hb3⟩
    rw [HTl.out]
    have HB3 := hide (HB2.out.on hb3)
    have HUP3 := hide hup
    clear q0 q1 q2 q3 hd1
    have q1 := HB3.out.c 1 _ rfl
    have hd1 : w.heap.size < w3.heap.size := HB3.out.size
    clear hup hb3 hgp
    go_upto_region 5 with (at_make; refine mkO_arm rfl (.tmp 16) (.tmp 16) _ rfl Tryz.underlying30 G.ns.length _ _ rfl rfl rfl rfl (by omega) ?_; intro w4 hu4 hb4 hlt4)
    have HB4 := hide (HB3.out.on hb4)
    have HUP4 := hide (HUP3.out.below hb4 HUP3.out.lt)
    have HGP : Hid (gp < w3.heap.size) := hide HUP3.out.lt
    have HU4 := hide hu4
    clear hu4 hb4 q1 HS0 H1 H2 HB2
    have hst := HOK.out.s0
    have hst1 := HOK.out.s1
    obtain ⟨m, hm⟩ : ∃ m : Nat, G.st = (m : Int) := ⟨G.st.toNat, by omega⟩
    have HM : Hid (G.st.toNat = m) := hide (by rw [hm]; simp)
    have q3 := HB4.out.c 3 _ rfl
    have ld : w.heap.size < w4.heap.size := HB4.out.size
    rw [hm] at q3 hst1
    have k3 := HU4.out.cell m (by simp; omega)
    have f3 := HU4.out.frozen m
    clear hm hst
    obtain ⟨wv, hwv⟩ : ∃ y, y = w4.setCell ⟨w3.heap.size, m, none⟩ (.bool true) := ⟨_, rfl⟩
    have HBv : Hid (One w #[.slice AT G.ts.length cT, .slice AN G.ns.length cN, .slice AR G.rs.length cR, .int .i64 G.st] wv) := hide (by rw [hwv]; exact Below.setCell (p := ⟨w3.heap.size, m, none⟩) HB4.out (by simp only; omega) _)
    have HUv : Hid (UBO wv w3.heap.size ((List.replicate G.ns.length false).set m true)) := hide (by rw [hwv]; exact HU4.out.set_ m true)
    have HPv : Hid (UBO wv gp T) := hide (by rw [hwv]; exact UBO.far HUP4.out (by have := HGP.out; simp only; omega) _)
    have HGK : Hid (w.heap.size < w3.heap.size) := hide hd1
    clear HB3 HB4 HU4 HUP3 HUP4
    go_upto_region 6 with fail
    rw [← hwv]
    obtain ⟨gk, hgk⟩ : ∃ gk, gk = w3.heap.size := ⟨_, rfl⟩
    rw [← hgk] at HUv HGK HGP ⊢
    have HS0 := hide (Gm.reach_rc HOK.out.lin HOK.out.sin HOK.out.s0 HOK.out.s1)
    rw [HM.out, ← HT.out] at HS0
    have HL0 : Hid (((List.replicate G.ns.length false).set m true).length = G.ns.length) := hide (by simp)
    generalize (List.replicate G.ns.length false).set m true = s0 at *
    clear k3 f3 q3 ld hlt4 hd1 hwv hgk hst1
    go_wp2
    go_loopw [5] (fun vn wr => ∃ n : Nat, n ≤ G.ns.length ∧ vn = .int .i64 n ∧ Hid (UBO wr gk (Gm.times (Gm.reachP T G.rs) n s0)) ∧ Hid (wv.grownBy wr (some gk))) (fun vn _ => G.ns.length - (intOf vn).toNat)
    case atStart => exact ⟨0, Nat.zero_le _, rfl, HUv, hide (World.grownBy.refl _ _)⟩
    case round =>
      obtain ⟨n, hn, rfl, HU, HW⟩ := hrel
      obtain ⟨wo, hwo⟩ : ∃ wo : World, wo = wr := ⟨_, rfl⟩
      subst hwo
      have q1 := kept_cell HW.out (HBv.out.c 1 _ rfl) (by have := HGK.out; omega)
      have ld := block_lt_of_cell q1
      by_cases hlt : n < G.ns.length
      · have HSL : Hid ((Gm.times (Gm.reachP T G.rs) n s0).length = G.ns.length) := hide (by have := (Gm.times_le (f := Gm.reachP T G.rs) (fun s => Gm.foldl_le _ (Gm.reach1_le T) G.rs s) n s0).len; rw [← this]; exact HL0.out)
        have HNX : Hid (Gm.times (Gm.reachP T G.rs) (n + 1) s0 = G.rs.foldl (Gm.reach1 T) (Gm.times (Gm.reachP T G.rs) n s0)) := hide rfl
        generalize Gm.times (Gm.reachP T G.rs) n s0 = s at *
        go_wp2
        go_loopw [6] (fun vi wr => ∃ i : Nat, i ≤ G.rs.length ∧ vi = .int .i64 i ∧ Hid (UBO wr gk ((G.rs.take i).foldl (Gm.reach1 T) s)) ∧ Hid (wv.grownBy wr (some gk))) (fun vi _ => G.rs.length - (intOf vi).toNat)
        case atStart => exact ⟨0, Nat.zero_le _, rfl, HU, HW⟩
        case round =>
          clear HU HW q1 ld
          obtain ⟨i, hi, rfl, HU, HW⟩ := hrel
          obtain ⟨wi, hwi⟩ : ∃ wi : World, wi = wr := ⟨_, rfl⟩
          subst hwi
          have q2 := kept_cell HW.out (HBv.out.c 2 _ rfl) (by have := HGK.out; omega)
          have ld := block_lt_of_cell q2
          by_cases hlt2 : i < G.rs.length
          · obtain ⟨g, o, rfl, hgB, hc⟩ := HRl.out (by omega)
            obtain ⟨k0, ⟨A', c', k1, _, _, hri⟩, k2⟩ := hc i hlt2
            have hBv : B ≤ wv.heap.size := Nat.le_trans HB.out HBv.out.below.size
            have hBk : B ≤ gk := Nat.le_trans HB.out (Nat.le_of_lt HGK.out)
            have HCV := hide (fun (y : World) (h : wv.grownBy y (some gk)) (o' : Nat) => (grown_cell (o := o') h hBv hBk hgB).trans (HBv.out.below.cell (p := ⟨g, o', none⟩) (Nat.lt_of_lt_of_le hgB HB.out)))
            have k0 := (HCV.out _ HW.out _).trans k0
            have k1 := (HCV.out _ HW.out _).trans k1
            have k2 := (HCV.out _ HW.out _).trans k2
            have hgs : g < wi.heap.size := block_lt_of_cell k0
            have hxm : G.rs[i] ∈ G.rs := List.getElem_mem hlt2
            have e := HFT.out.r _ hxm
            have HCL := hide ((Gm.reachP_len T (G.rs.take i) s).trans HSL.out)
            have HTK := hide (Gm.reachP_take (p := T) hlt2 s)
            have hxl := HOK.out.lin _ hxm
            have hRI : ∀ y : World, wv.grownBy y (some gk) → RdI y B A' G.rs[i].r := fun y h => hri.keep fun g o hg => (grown_cell h hBv hBk hg).trans (HBv.out.below.cell (p := ⟨g, o, none⟩) (Nat.lt_of_lt_of_le hg HB.out))
            have HAL := hide (fun (y : World) (h : wv.grownBy y (some gk)) => rall_any G.rs[i].r T true A' (some ⟨gp, 0, none⟩) c' G.ns.length B y.heap.size y (hRI y h) e.2.2 (fun z hz h => by rw [HTl.out]; exact HOK.out.sin _ hxm z hz h) ((HPv.out.grown h (fun e => by injection e with e; have := HGP.out; omega)).rd0 (Nat.lt_of_lt_of_le HPv.out.lt h.size)) (by have := (Gm.rule_in (HOK.out.rr _ hxm)).1; omega))
            rw [HTl.out] at HAL
            have HRI := hide hRI
            have HSN := hide (HOK.out.sin _ hxm)
            have hr6 := (Gm.rule_in (HOK.out.rr _ hxm)).1
            have HIN := hide e.2.2
            generalize (G.rs.take i).foldl (Gm.reach1 T) s = cur at *
            generalize G.rs[i] = x at *
            obtain ⟨l, r, pz⟩ := x
            simp only at k0 k1 k2 HAL HRI HSN hr6 hxl HIN
            obtain ⟨m, rfl⟩ : ∃ m : Nat, l = (m : Int) := ⟨l.toNat, by omega⟩
            have hmn : m < cur.length := by rw [HCL.out]; omega
            have hmi := hxl.2
            have lu := HU.out.lt
            have hrl : (r.length : Int) ≤ 9223372036854775807 := by omega
            have HE0 : Hid (Gm.rcB T cur ⟨m, r, pz⟩ = (cur.getD m false && Gm.allB true T r)) := hide (by simp [Gm.rcB])
            have HX0 := hide (heap_alloc_new wi (.cells #[.int .i64 m, .slice A' r.length c', .int .i64 pz] 40))
            have HU1 := hide (HU.out.alloc (.cells #[.int .i64 m, .slice A' r.length c', .int .i64 pz] 40))
            have HW1 := hide (only_alloc HW.out (.cells #[.int .i64 m, .slice A' r.length c', .int .i64 pz] 40))
            clear hc hri e hxm hxl hRI hBv hBk HCV
            go_wp2
            go_loopw [8] (fun vk wr => ∃ k : Nat, k ≤ r.length ∧ vk = .int .i64 k ∧ Hid (Gm.rcB T cur ⟨m, r, pz⟩ = false → k = 0) ∧ Hid (UBO wr gk (Gm.marks cur (r.take k))) ∧ Hid (wv.grownBy wr (some gk)) ∧ Hid (wr.heap[wi.heap.size]? = some (.cells #[.int .i64 m, .slice A' r.length c', .int .i64 pz] 40 (0, 0)))) (fun vk _ => r.length - (intOf vk).toNat)
            case atStart => exact ⟨0, Nat.zero_le _, rfl, hide (fun _ => rfl), by simpa [Gm.marks] using HU1, HW1, HX0⟩
            case round =>
              clear HU HW HU1 HW1 HX0 k0 k1 k2
              obtain ⟨k, hk, rfl, HK, HU, HW, HX⟩ := hrel
              have d0 := cell_of_row wr _ 0 _ _ _ HX.out
              have d1 := cell_of_row wr _ 1 _ _ _ HX.out
              have hd := (Array.getElem?_eq_some_iff.1 HX.out).1
              have lk := HU.out.lt
              have HML : Hid ((Gm.marks cur (r.take k)).length = G.ns.length) := hide ((Gm.marks_le cur _).len.symm.trans HCL.out)
              have km := HU.out.cell m (by rw [HML.out]; omega)
              by_cases hlt3 : k < r.length
              · have HAW := hide (HAL.out wr HW.out)
                cases hc : Gm.rcB T cur ⟨m, r, pz⟩
                · obtain rfl := HK.out hc
                  have HTK2 := hide (HTK.out.trans (Gm.reach1_no hc))
                  rw [List.take_zero, show Gm.marks cur [] = cur from rfl] at HU km
                  have HE1 := hide (HE0.out.symm.trans hc)
                  cases hv : cur.getD m false
                  · rw [hv] at km
                    clear hc hv HE1 HAW
                    go_wp2
                    go_roundw
                    case rel => exact ⟨i + 1, hlt2, by go_num, by rw [HTK2.out]; exact HU, HW⟩
                    case measure => simp [intOf]; omega
                  · rw [hv] at km
                    have ha : Gm.allB true T r = false := by have := HE1.out; rw [hv] at this; simpa using this
                    rw [ha] at HAW
                    clear hc hv HE1 ha
                    go_wp2_with fail
                    refine HAW.out.mono ?_; rintro _ w5 ⟨rfl, hw5⟩
                    subst hw5
                    go_wp2
                    go_roundw
                    case rel => exact ⟨i + 1, hlt2, by go_num, by rw [HTK2.out]; exact HU, HW⟩
                    case measure => simp [intOf]; omega
                · have h2 := HE0.out.symm.trans hc
                  rw [Bool.and_eq_true] at h2
                  rw [(Gm.marks_le cur (r.take k)).get m h2.1] at km
                  rw [h2.2] at HAW
                  obtain ⟨g5, o5, rfl, hg5, hc5⟩ := HRI.out wr HW.out (by omega)
                  have k5 := hc5 k hlt3
                  rw [L.gd_lt hlt3] at k5
                  have HSZ := hide (HSN.out _ (List.getElem_mem hlt3))
                  have HIZ := HIN.out _ (List.getElem_mem hlt3)
                  have HMT := hide (Gm.marks_take hlt3 cur)
                  have HKn := HK
                  have l5 := block_lt_of_cell k5
                  unfold Gm.In at HIZ
                  generalize r[k] = z at *
                  clear hc5 h2
                  by_cases hz : z < 0
                  · have hz1 := HSZ.out hz
                    obtain ⟨j, hj⟩ : ∃ j : Nat, -1 - z = (j : Int) := ⟨(-1 - z).toNat, by omega⟩
                    have hw1 : IntKind.i64.wrap (-1 - z) = (j : Int) := by rw [IntWalk.i64_in _ (by omega)]; exact hj
                    have HMT2 : Hid (Gm.marks cur (r.take (k + 1)) = (Gm.marks cur (r.take k)).set j true) := hide (HMT.out.trans (by unfold Gm.mark1; rw [if_pos hz, hj]; simp))
                    have hjn : j < (Gm.marks cur (r.take k)).length := by rw [HML.out]; omega
                    have HU2 := hide (HU.out.set_ j true)
                    have HW2 := hide (only_set HW.out j (.bool true))
                    have HX2 := hide ((Below.heap_setCell wr ⟨gk, j, none⟩ (.bool true) wi.heap.size (by simp only; omega)).trans HX.out)
                    have kj := HU.out.cell j hjn
                    have fj := HU.out.frozen j
                    have hji : (j : Int) < (G.ns.length : Int) := by omega
                    have hz0 : decide (z < 0) = true := decide_eq_true hz
                    clear hz hz1 hj HMT hc HIZ hjn
                    go_wp2_with fail
                    refine HAW.out.mono ?_; rintro _ w5 ⟨rfl, hw5⟩
                    subst hw5
                    go_wp2
                    go_roundw
                    case rel => exact ⟨k + 1, hlt3, by go_num, hide (fun h => by cases h), by rw [HMT2.out]; exact HU2, HW2, HX2⟩
                    case measure => simp [intOf]; omega
                  · have HMT2 : Hid (Gm.marks cur (r.take (k + 1)) = Gm.marks cur (r.take k)) := hide (HMT.out.trans (by unfold Gm.mark1; rw [if_neg hz]))
                    have hz0 : decide (z < 0) = false := decide_eq_false hz
                    clear hz HMT hc HIZ
                    go_wp2_with fail
                    refine HAW.out.mono ?_; rintro _ w5 ⟨rfl, hw5⟩
                    subst hw5
                    go_wp2
                    go_roundw
                    case rel => exact ⟨k + 1, hlt3, by go_num, hide (fun h => by cases h), by rw [HMT2.out]; exact HU, HW, HX⟩
                    case measure => simp [intOf]; omega
              · obtain rfl : k = r.length := by omega
                have HTK2 : Hid ((G.rs.take (i + 1)).foldl (Gm.reach1 T) s = Gm.marks cur (r.take r.length)) := hide (HTK.out.trans (by
                  cases hc : Gm.rcB T cur ⟨m, r, pz⟩
                  · rw [Gm.reach1_no hc]
                    have := HK.out hc
                    rw [List.eq_nil_of_length_eq_zero this]; rfl
                  · rw [Gm.reach1_yes hc, List.take_length]))
                go_wp2
                go_roundw
                case rel => exact ⟨i + 1, hlt2, by go_num, by rw [HTK2.out]; exact HU, HW⟩
                case measure => simp [intOf]; omega
          · obtain rfl : i = G.rs.length := by omega
            rw [List.take_length] at HU
            go_wp2
            go_roundw
            case rel => exact ⟨n + 1, hlt, by go_num, by rw [HNX.out]; exact HU, HW⟩
            case measure => simp [intOf]; omega
      · obtain rfl : n = G.ns.length := by omega
        go_wp2
        go_ret
        exact ⟨fun _ => ⟨gk, by rw [Gm.rc_len]; rfl, Nat.le_of_lt HGK.out, by rw [← HS0.out]; exact HU.out, below_only HBv.out.below HW.out (Nat.le_of_lt HGK.out) HBv.out.below.size⟩, fun h => by simp at h⟩
end Go.Proofs.YtfiijndmlmddbaaGreat

namespace Go.Proofs.YtfiijndmlmddbaaGreat
set_option maxRecDepth 100000

namespace Gm
/-! ### numbers as they come first -/
def ord : List Int → List Int → List Int
  | acc, [] => acc
  | acc, l :: r => ord (if l ∈ acc then acc else acc ++ [l]) r
/-- The number that is given to one of them. -/
def pos (o : List Int) (l : Int) : Int := if l ∈ o then (o.idxOf l : Int) else -1
theorem ord_pre : ∀ (ls acc : List Int), ∃ t, ord acc ls = acc ++ t
  | [], acc => ⟨[], by rw [ord]; simp⟩
  | l :: r, acc => by
    rw [ord]
    obtain ⟨t, h⟩ := ord_pre r (if l ∈ acc then acc else acc ++ [l])
    rw [h]
    split
    · exact ⟨t, rfl⟩
    · exact ⟨l :: t, by simp⟩
theorem ord_mem : ∀ (ls acc : List Int) (x : Int), x ∈ ord acc ls ↔ x ∈ acc ∨ x ∈ ls
  | [], acc, x => by rw [ord]; simp
  | l :: r, acc, x => by
    rw [ord, ord_mem r]
    split
    · simp only [List.mem_cons]
      constructor
      · rintro (h | h)
        · exact .inl h
        · exact .inr (.inr h)
      · rintro (h | rfl | h)
        · exact .inl h
        · exact .inl (by assumption)
        · exact .inr h
    · simp only [List.mem_append, List.mem_cons, List.not_mem_nil, or_false]
      constructor
      · rintro ((h | h) | h)
        · exact .inl h
        · exact .inr (.inl h)
        · exact .inr (.inr h)
      · rintro (h | h | h)
        · exact .inl (.inl h)
        · exact .inl (.inr h)
        · exact .inr h
theorem ord_nodup : ∀ (ls acc : List Int), acc.Nodup → (ord acc ls).Nodup
  | [], acc, h => by rw [ord]; exact h
  | l :: r, acc, h => by
    rw [ord]
    refine ord_nodup r _ ?_
    split
    · exact h
    · rename_i hn
      rw [List.nodup_append]
      refine ⟨h, by simp, fun a ha b hb => ?_⟩
      simp at hb; subst hb
      exact fun e => hn (e ▸ ha)
theorem pos_of {o : List Int} {l : Int} (h : l ∈ o) : pos o l = (o.idxOf l : Int) := by unfold pos; rw [if_pos h]
theorem pos_lt {o : List Int} {l : Int} (h : l ∈ o) : 0 ≤ pos o l ∧ pos o l < o.length := by
  rw [pos_of h]
  have := List.idxOf_lt_length_of_mem h
  omega
theorem pos_app {acc t : List Int} {l : Int} (h : l ∈ acc) : pos (acc ++ t) l = pos acc l := by
  rw [pos_of h, pos_of (List.mem_append_left _ h), List.idxOf_append, if_pos h]
theorem pos_new {acc t : List Int} {l : Int} (h : l ∉ acc) : pos (acc ++ l :: t) l = acc.length := by
  rw [pos_of (by simp), List.idxOf_append, if_neg h]
  simp
theorem pos_get {o : List Int} (hn : o.Nodup) (i : Nat) (h : i < o.length) : pos o o[i] = i := by
  rw [pos_of (List.getElem_mem h)]
  congr 1
  have h1 := List.idxOf_lt_length_of_mem (List.getElem_mem h)
  have h2 : o[o.idxOf o[i]] = o[i] := List.getElem_idxOf h1
  have h3 := List.pairwise_iff_getElem.1 hn
  rcases Nat.lt_trichotomy (o.idxOf o[i]) i with h4 | h4 | h4
  · exact absurd h2 (h3 _ _ h1 h h4)
  · exact h4
  · exact absurd h2.symm (h3 _ _ h h1 h4)
/-- Numbered as they come, they come in order. -/
theorem ord_tops : ∀ (ls acc : List Int) (o : List Int), o = ord acc ls → tops o.length (ls.map (pos o)) ((acc.length : Int) - 1) = true
  | [], acc, o, h => by
    rw [ord] at h
    subst h
    rw [List.map_nil, tops]; simp
  | l :: r, acc, o, h => by
    rw [ord] at h
    rw [List.map_cons, tops]
    obtain ⟨t, ht⟩ := ord_pre r (if l ∈ acc then acc else acc ++ [l])
    rw [ht] at h
    by_cases hl : l ∈ acc
    · rw [if_pos hl] at ht h
      have h1 := pos_lt hl
      have h2 : pos o l = pos acc l := by rw [h]; exact pos_app hl
      rw [h2, if_neg (by omega), if_neg (by omega)]
      exact ord_tops r acc o (h.trans ht.symm)
    · rw [if_neg hl] at ht h
      have h2 : pos o l = acc.length := by rw [h, List.append_assoc]; exact pos_new hl
      rw [h2, if_neg (by omega), if_pos (by omega)]
      have := ord_tops r (acc ++ [l]) o (h.trans ht.symm)
      simpa using this
/-- The numbers 0, 1, .. -/
def ups (n : Nat) : List Int := (List.range n).map fun i : Nat => (i : Int)
theorem ups_len (n : Nat) : (ups n).length = n := by simp [ups]
theorem ups_mem (n : Nat) (x : Int) : x ∈ ups n ↔ 0 ≤ x ∧ x < n := by
  unfold ups
  rw [List.mem_map]
  constructor
  · rintro ⟨i, hi, rfl⟩
    have := List.mem_range.1 hi
    omega
  · intro h
    exact ⟨x.toNat, List.mem_range.2 (by omega), by omega⟩
theorem ups_succ (n : Nat) : ups (n + 1) = ups n ++ [(n : Int)] := by unfold ups; rw [List.range_succ]; simp
theorem ups_get (n i : Nat) (h : i < (ups n).length) : (ups n)[i] = i := by simp [ups]
theorem ups_nodup (n : Nat) : (ups n).Nodup := by
  unfold ups
  refine List.nodup_iff_pairwise_ne.2 ?_
  rw [List.pairwise_map]
  exact List.nodup_range.imp fun h e => h (by omega)
theorem pos_ups {n : Nat} {x : Int} (h : 0 ≤ x ∧ x < n) : pos (ups n) x = x := by
  have := pos_get (ups_nodup n) x.toNat (by rw [ups_len]; omega)
  rw [ups_get] at this
  rwa [Int.toNat_of_nonneg h.1] at this
/-- What comes in order keeps its numbers. -/
theorem tops_ord {n : Nat} : ∀ (ls : List Int) (k : Nat), tops n ls ((k : Int) - 1) = true → ord (ups k) ls = ups n
  | [], k, h => by
    rw [tops] at h
    have : (k : Int) - 1 = n - 1 := by simpa using h
    rw [ord, show k = n by omega]
  | l :: r, k, h => by
    rw [tops] at h
    split at h
    · cases h
    · rw [ord]
      by_cases hl : l < k
      · rw [if_pos ((ups_mem _ _).2 ⟨by omega, hl⟩)]
        rw [if_neg (by omega)] at h
        exact tops_ord r k h
      · have e : l = k := by omega
        rw [if_neg (fun hm => hl ((ups_mem _ _).1 hm).2)]
        rw [if_pos (by omega)] at h
        subst e
        rw [← ups_succ]
        exact tops_ord r (k + 1) (by simpa using h)

/-! ### reduced -/
/-- Is a rule of use? -/
noncomputable def use (G : Gr) (x : Rl) : Bool := tr (Rc G x.l ∧ Al true G.rs x.r)
noncomputable def krs (G : Gr) : List Rl := G.rs.filter (use G)
/-- The rules that are left, by number. -/
noncomputable def kept (G : Gr) : List Nat := (List.range G.rs.length).filter fun i => (G.rs[i]?).any (use G)
noncomputable def olds (G : Gr) : List Int := ord [] ((krs G).map Rl.l)
def re1 (o : List Int) (z : Int) : Int := if z < 0 then -1 - pos o (-1 - z) else z
def re (o : List Int) (x : Rl) : Rl := ⟨pos o x.l, x.r.map (re1 o), x.p⟩
noncomputable def reduce (G : Gr) : Gr := ⟨G.ts, (olds G).map fun l => G.ns.getD l.toNat [], (krs G).map (re (olds G)), pos (olds G) G.st⟩
theorem mem_krs {G : Gr} {x : Rl} : x ∈ krs G ↔ x ∈ G.rs ∧ Rc G x.l ∧ Al true G.rs x.r := by
  unfold krs use; rw [List.mem_filter, tr_iff]
theorem mem_olds {G : Gr} {l : Int} : l ∈ olds G ↔ ∃ x ∈ krs G, x.l = l := by
  unfold olds
  rw [ord_mem]
  simp
theorem olds_nodup (G : Gr) : (olds G).Nodup := ord_nodup _ _ (by simp)
/-- What is reached and productive has a rule of use. -/
theorem olds_of {G : Gr} {j : Int} (h : Rc G j) (hp : Gn true G.rs j) : j ∈ olds G := by
  obtain ⟨x, hx, rfl, ha⟩ := hp.rule
  exact mem_olds.2 ⟨x, mem_krs.2 ⟨hx, h, ha⟩, rfl⟩
theorem olds_in {G : Gr} {j : Int} (h : j ∈ olds G) : Rc G j ∧ Gn true G.rs j := by
  obtain ⟨x, hx, rfl⟩ := mem_olds.1 h
  obtain ⟨h1, h2, h3⟩ := mem_krs.1 hx
  exact ⟨h2, .of h1 h3⟩
theorem use_sym {G : Gr} {x : Rl} (hx : x ∈ krs G) {z : Int} (hz : z ∈ x.r) (hn : z < 0) : -1 - z ∈ olds G := by
  obtain ⟨h1, h2, h3⟩ := mem_krs.1 hx
  exact olds_of (.on x h1 h2 h3 z hz hn) (h3.2 z hz hn)
theorem use_left {G : Gr} {x : Rl} (hx : x ∈ krs G) : x.l ∈ olds G := mem_olds.2 ⟨x, hx, rfl⟩
/-- Productive in what is reduced. -/
theorem gn_red {G : Gr} {j : Int} (hp : Gn true G.rs j) : Rc G j → Gn true (reduce G).rs (pos (olds G) j) := by
  induction hp with
  | mk x hx ht hn ih =>
    intro hr
    have ha : Al true G.rs x.r := ⟨ht, hn⟩
    have hk : x ∈ krs G := mem_krs.2 ⟨hx, hr, ha⟩
    have hm : re (olds G) x ∈ (reduce G).rs := List.mem_map_of_mem hk
    refine Gn.of hm ⟨fun _ _ _ => rfl, fun z hz h0 => ?_⟩
    obtain ⟨y, hy, rfl⟩ := List.mem_map.1 hz
    unfold re1 at h0 ⊢
    by_cases h1 : y < 0
    · rw [if_pos h1] at h0 ⊢
      rw [show -1 - (-1 - pos (olds G) (-1 - y)) = pos (olds G) (-1 - y) by omega]
      exact ih y hy h1 (.on x hx hr ha y hy h1)
    · rw [if_neg h1] at h0; omega
theorem al_red {G : Gr} {x : Rl} (hk : x ∈ krs G) : Al true (reduce G).rs (re (olds G) x).r := by
  obtain ⟨hx, hr, ha⟩ := mem_krs.1 hk
  refine ⟨fun _ _ _ => rfl, fun z hz h0 => ?_⟩
  obtain ⟨y, hy, rfl⟩ := List.mem_map.1 hz
  unfold re1 at h0 ⊢
  by_cases h1 : y < 0
  · rw [if_pos h1] at h0 ⊢
    rw [show -1 - (-1 - pos (olds G) (-1 - y)) = pos (olds G) (-1 - y) by omega]
    exact gn_red (ha.2 y hy h1) (.on x hx hr ha y hy h1)
  · rw [if_neg h1] at h0; omega
/-- Reached in what is reduced. -/
theorem rc_red {G : Gr} {j : Int} (h : Rc G j) : Rc (reduce G) (pos (olds G) j) := by
  induction h with
  | st => exact .st
  | on x hx hr hp z hz hn ih =>
    have hk : x ∈ krs G := mem_krs.2 ⟨hx, hr, hp⟩
    have hm : re (olds G) x ∈ (reduce G).rs := List.mem_map_of_mem hk
    have h1 := pos_lt (use_sym hk hz hn)
    have := Rc.on (G := reduce G) (re (olds G) x) hm ih (al_red hk) (-1 - pos (olds G) (-1 - z)) (List.mem_map.2 ⟨z, hz, by unfold re1; rw [if_pos hn]⟩) (by omega)
    rwa [show -1 - (-1 - pos (olds G) (-1 - z)) = pos (olds G) (-1 - z) by omega] at this
theorem red_ns (G : Gr) : (reduce G).ns.length = (olds G).length := by simp [reduce]
/-- All of what is reduced is productive and reached. -/
theorem red_all {G : Gr} {i : Nat} (h : i < (reduce G).ns.length) : Gn true (reduce G).rs (i : Int) ∧ Rc (reduce G) (i : Int) := by
  rw [red_ns] at h
  have h1 := olds_in (List.getElem_mem h)
  have h2 := pos_get (olds_nodup G) i h
  exact ⟨by have := gn_red h1.2 h1.1; rwa [h2] at this, by have := rc_red h1.1; rwa [h2] at this⟩
theorem red_use {G : Gr} {y : Rl} (hy : y ∈ (reduce G).rs) : use (reduce G) y = true := by
  obtain ⟨x, hx, rfl⟩ := List.mem_map.1 hy
  unfold use
  rw [tr_iff]
  exact ⟨rc_red (mem_krs.1 hx).2.1, al_red hx⟩
theorem red_krs (G : Gr) : krs (reduce G) = (reduce G).rs := List.filter_eq_self.2 fun _ h => red_use h
theorem red_tops (G : Gr) : tops (reduce G).ns.length ((reduce G).rs.map Rl.l) (-1) = true := by
  have := ord_tops ((krs G).map Rl.l) [] (olds G) rfl
  rw [red_ns]
  have e : (reduce G).rs.map Rl.l = ((krs G).map Rl.l).map (pos (olds G)) := by
    unfold reduce; simp [re]
  rw [e]
  simpa using this
theorem red_olds (G : Gr) : olds (reduce G) = ups (reduce G).ns.length := by
  unfold olds
  rw [red_krs]
  exact tops_ord _ 0 (by simpa using red_tops G)
theorem map_self {α : Type} {f : α → α} {l : List α} (h : ∀ x ∈ l, f x = x) : l.map f = l := by
  rw [List.map_congr_left (g := id) h, List.map_id]
theorem re_self {n : Nat} {x : Rl} (hl : 0 ≤ x.l ∧ x.l < n) (hs : Sin n x.r) : re (ups n) x = x := by
  cases x with
  | mk l r p =>
    unfold re
    rw [pos_ups hl]
    congr 1
    refine map_self fun z hz => ?_
    unfold re1
    by_cases h0 : z < 0
    · rw [if_pos h0, pos_ups ⟨by omega, hs z hz h0⟩]; omega
    · rw [if_neg h0]
theorem red_lin (G : Gr) : Lin (reduce G).ns.length (reduce G).rs := fun x hx => (tops_lt _ _ (red_tops G)).2 x.l (List.mem_map_of_mem hx)
theorem red_sin (G : Gr) : ∀ x ∈ (reduce G).rs, Sin (reduce G).ns.length x.r := fun y hy z hz h0 => by
  obtain ⟨x, hx, rfl⟩ := List.mem_map.1 hy
  obtain ⟨u, hu, rfl⟩ := List.mem_map.1 hz
  unfold re1 at h0 ⊢
  by_cases h1 : u < 0
  · rw [if_pos h1] at h0 ⊢
    have := pos_lt (use_sym hx hu h1)
    rw [red_ns]; omega
  · rw [if_neg h1] at h0; omega
/-- The start, productive, keeps its place. -/
theorem st_in {G : Gr} (hp : Gn true G.rs G.st) : G.st ∈ olds G := olds_of .st hp
/-- Reduced once is reduced. -/
theorem red_red {G : Gr} (hp : Gn true G.rs G.st) : reduce (reduce G) = reduce G := by
  have h0 := red_olds G
  have hst : 0 ≤ (reduce G).st ∧ (reduce G).st < (reduce G).ns.length := by rw [red_ns]; exact pos_lt (st_in hp)
  generalize hH : reduce G = H at *
  unfold reduce
  rw [h0, ← hH, red_krs, hH, pos_ups hst]
  have e1 : (ups H.ns.length).map (fun l => H.ns.getD l.toNat []) = H.ns := by
    refine List.ext_getElem (by simp [ups_len]) fun i h1 h2 => ?_
    simp [ups_get, h2]
  have e2 : H.rs.map (re (ups H.ns.length)) = H.rs := by
    refine map_self fun x hx => ?_
    refine re_self ?_ ?_
    · have := red_lin G; rw [hH] at this; exact this x hx
    · have := red_sin G; rw [hH] at this; exact this x hx
  rw [e1, e2]
end Gm
end Go.Proofs.YtfiijndmlmddbaaGreat

namespace Go.Proofs.YtfiijndmlmddbaaGreat
set_option maxRecDepth 100000

namespace Gm
theorem olds_lt {G : Gr} (h : Ok G) {j : Int} (hj : j ∈ olds G) : 0 ≤ j ∧ j < G.ns.length := (olds_in hj).2.lin h.lin
theorem olds_le {G : Gr} (h : Ok G) : (olds G).length ≤ G.ns.length := by
  have h1 := pigeons G.ns.length ((olds G).map (· + 1)) ?_ ?_
  · simpa using h1.1
  · refine List.nodup_iff_pairwise_ne.2 ?_
    rw [List.pairwise_map]
    exact (List.nodup_iff_pairwise_ne.1 (olds_nodup G)).imp fun h e => h (by omega)
  · intro x hx
    obtain ⟨y, hy, rfl⟩ := List.mem_map.1 hx
    have := olds_lt h hy
    omega
/-- The name of one that is left. -/
theorem red_name {G : Gr} (h : Ok G) (i : Nat) (hi : i < (olds G).length) : ∃ hk : ((olds G)[i]).toNat < G.ns.length, (reduce G).ns[i]'(by rw [red_ns]; exact hi) = G.ns[((olds G)[i]).toNat] := by
  have h1 := olds_lt h (List.getElem_mem hi)
  have hk : ((olds G)[i]).toNat < G.ns.length := by omega
  refine ⟨hk, ?_⟩
  simp [reduce, hk]
/-- What is reduced may be. -/
theorem red_ok {G : Gr} (h : Ok G) (hp : Gn true G.rs G.st) : Ok (reduce G) := by
  have hst := st_in hp
  have hpo := pos_lt hst
  have hN := (nons_iff G).1 h.n
  have hle := olds_le h
  have hns : ∀ s ∈ (reduce G).ns, s ∈ G.ns := fun s hs => by
    obtain ⟨i, hi, rfl⟩ := List.getElem_of_mem hs
    rw [red_ns] at hi
    obtain ⟨hk, e⟩ := red_name h i hi
    rw [e]; exact List.getElem_mem hk
  have hnd : (reduce G).ns.Nodup := by
    refine List.nodup_iff_pairwise_ne.2 (List.pairwise_iff_getElem.2 fun i j hi hj hij e => ?_)
    rw [red_ns] at hi hj
    obtain ⟨hk, e1⟩ := red_name h i hi
    obtain ⟨hk2, e2⟩ := red_name h j hj
    rw [e1, e2] at e
    have h1 := olds_lt h (List.getElem_mem hi)
    have h2 := olds_lt h (List.getElem_mem hj)
    have h3 : ((olds G)[i]).toNat = ((olds G)[j]).toNat := by
      have h4 := List.pairwise_iff_getElem.1 hN.2.2.2.1
      rcases Nat.lt_trichotomy ((olds G)[i]).toNat ((olds G)[j]).toNat with h5 | h5 | h5
      · exact absurd e (h4 _ _ hk hk2 h5)
      · exact h5
      · exact absurd e.symm (h4 _ _ hk2 hk h5)
    have h6 : (olds G)[i] = (olds G)[j] := by omega
    exact List.pairwise_iff_getElem.1 (olds_nodup G) i j hi hj hij h6
  refine ⟨h.t, (nons_iff _).2 ⟨by rw [red_ns]; omega, by rw [red_ns]; omega, fun s hs => hN.2.2.1 s (hns s hs), hnd, fun s hs => hN.2.2.2.2 s (hns s hs)⟩, ?_, ?_, hpo.1, by rw [red_ns]; exact hpo.2, ?_, red_tops G⟩
  · obtain ⟨x, hx, _⟩ := mem_olds.1 hst
    have : 0 < (krs G).length := List.length_pos_of_mem hx
    have e : (reduce G).rs.length = (krs G).length := by simp [reduce]
    omega
  · have h1 : (krs G).length ≤ G.rs.length := List.length_filter_le _ _
    have := h.r40
    have e : (reduce G).rs.length = (krs G).length := by simp [reduce]
    omega
  · intro y hy
    have hs := red_sin G y hy
    obtain ⟨x, hx, rfl⟩ := List.mem_map.1 hy
    obtain ⟨h1, h2, h3, h4⟩ := rule_in (h.rr x (mem_krs.1 hx).1)
    refine rule_of ⟨by simpa [re] using h1, h2, h3, fun z hz => ?_⟩
    have hz2 := hz
    obtain ⟨u, hu, e⟩ := List.mem_map.1 hz
    have h5 := h4 u hu
    by_cases h0 : z < 0
    · exact ⟨by have : (0:Int) ≤ ((reduce G).ts.length : Int) := by omega
                omega, hs z hz2 h0, fun h => absurd h0 (by omega)⟩
    · have : z = u := by
        rw [← e]; unfold re1
        by_cases h7 : u < 0
        · rw [if_pos h7, ← e] at *
          unfold re1 at h0
          rw [if_pos h7] at h0
          have := pos_lt (use_sym hx hu h7)
          omega
        · rw [if_neg h7]
      rw [this]
      exact ⟨h5.1, by have : (0:Int) ≤ ((reduce G).ns.length : Int) := by omega
                      omega, h5.2.2⟩
/-- The rules that are left, by number: as many, in order. -/
theorem kept_rs (G : Gr) : (kept G).map (fun i => G.rs.getD i ⟨0, [], 0⟩) = krs G := by
  unfold kept krs
  generalize use G = f
  have key : ∀ (rs pre : List Rl), ((List.range' pre.length rs.length).filter fun i => ((pre ++ rs)[i]?).any f).map (fun i => (pre ++ rs).getD i ⟨0, [], 0⟩) = rs.filter f := by
    intro rs
    induction rs with
    | nil => intro pre; simp
    | cons x rs ih =>
      intro pre
      have h1 := ih (pre ++ [x])
      simp only [List.append_assoc, List.singleton_append, List.length_append, List.length_singleton] at h1
      rw [List.length_cons, List.range'_succ, List.filter_cons, List.filter_cons]
      have h2 : (pre ++ x :: rs)[pre.length]? = some x := by simp
      rw [h2]
      simp only [Option.any_some]
      split
      · rw [List.map_cons, h1]
        congr 1
        simp
      · exact h1
  have := key G.rs []
  simpa [List.range_eq_range'] using this
theorem kept_len (G : Gr) : (kept G).length = (krs G).length := by rw [← kept_rs]; simp
theorem kept_lt {G : Gr} {i : Nat} (h : i ∈ kept G) : i < G.rs.length := by
  have := List.mem_filter.1 h
  exact List.mem_range.1 this.1
theorem kept_at {G : Gr} (i : Nat) (h : i < (kept G).length) (h2 : (kept G)[i] < G.rs.length) : (krs G)[i]'(by rw [← kept_len]; exact h) = G.rs[(kept G)[i]] := by
  have : (krs G)[i]? = some (G.rs[(kept G)[i]]) := by
    rw [← kept_rs, List.getElem?_map, List.getElem?_eq_getElem h]
    simp [h2]
  rw [List.getElem?_eq_getElem (by rw [← kept_len]; exact h)] at this
  exact Option.some.inj this
end Gm
end Go.Proofs.YtfiijndmlmddbaaGreat

namespace Go.Proofs.YtfiijndmlmddbaaGreat
set_option maxRecDepth 100000
open Go.RowKit

theorem addZ (g o j : Nat) : ((⟨g, o, none⟩ : Addr).add j) = ⟨g, o + j, none⟩ := by unfold Addr.add; by_cases h0 : j = 0 <;> simp [h0]

/-- A slice value's address A, with these tokens, all of it below block B. -/
def RdT (L : List Int) (w : World) (B : Nat) (A : Option Addr) (ts : List Tok) : Prop :=
  ts.length ≠ 0 → ∃ g o, A = some ⟨g, o, none⟩ ∧ g < B ∧ ∀ i j u, (hi : i < ts.length) → (tcells L ts[i])[j]? = some u → w.cell? ⟨g, o + (i * 3 + j), none⟩ = some u
theorem RdT.nil (L : List Int) (w : World) (B : Nat) (A : Option Addr) : RdT L w B A [] := fun h => absurd rfl h
theorem RdT.keep {L : List Int} {w w' : World} {B : Nat} {A : Option Addr} {ts : List Tok} (h : RdT L w B A ts) (hk : ∀ g o, g < B → w'.cell? ⟨g, o, none⟩ = w.cell? ⟨g, o, none⟩) : RdT L w' B A ts := fun hn => by
  obtain ⟨g, o, e, hg, hc⟩ := h hn
  exact ⟨g, o, e, hg, fun i j u hi hu => (hk _ _ hg).trans (hc i j u hi hu)⟩
theorem RdT.more {L : List Int} {w : World} {B B' : Nat} {A : Option Addr} {ts : List Tok} (h : RdT L w B A ts) (hB : B ≤ B') : RdT L w B' A ts := fun hn => by
  obtain ⟨g, o, e, hg, hc⟩ := h hn
  exact ⟨g, o, e, by omega, hc⟩
theorem RdT.grown {L : List Int} {w w' : World} {B : Nat} {A : Option Addr} {ts : List Tok} {row : Option Nat} (h : RdT L w B A ts) (hg : w.grownBy w' row) (hr : ∀ k, row = some k → B ≤ k) (hs : B ≤ w.heap.size) : RdT L w' B A ts :=
  h.keep fun p o hp => World.cell?_of_block (hg.block p (by omega) (fun e => by have := hr p e.symm; omega))
theorem RdT.below {L : List Int} {w w' : World} {B B' : Nat} {A : Option Addr} {ts : List Tok} (h : RdT L w B A ts) (hb : Below B' w w') (hB : B ≤ B') : RdT L w' B A ts :=
  h.keep fun g o hg => hb.cell (p := ⟨g, o, none⟩) (Nat.lt_of_lt_of_le hg hB)
/-- A slice of the call's own reads as its tokens. -/
theorem OwnT.rd {L : List Int} {w : World} {base : Nat} {v : Value} {xs : List Tok} (h : OwnT L w base v xs) : ∃ A c, v = .slice A xs.length c ∧ xs.length ≤ c ∧ c ≤ maxLen ∧ RdT L w w.heap.size A xs := by
  obtain ⟨A, c, rfl, h1, h2⟩ := h.form
  refine ⟨A, c, rfl, h1, h2, fun h0 => ?_⟩
  obtain ⟨g, c', e, _, _, _, hg, hcell⟩ := h.addr h0
  injection e with e1 e2 e3
  refine ⟨g, 0, e1, hg, fun i j u hi hu => ?_⟩
  have hj : j < 3 := by
    have := (List.getElem?_eq_some_iff.1 hu).1
    simpa [tcells] using this
  rw [Nat.zero_add]
  exact hcell i j u hi hj (by rw [List.getElem?_eq_getElem hi]; exact hu)

/-- The address behind the first token. -/
def nextA (A : Option Addr) (c : Nat) : Option Addr := if c = 1 then A else A.map fun x => x.add 3
theorem RdT.tail {L : List Int} {w : World} {B c : Nat} {A : Option Addr} {t : Tok} {ts : List Tok} (h : RdT L w B A (t :: ts)) (hc : (t :: ts).length ≤ c) : RdT L w B (nextA A c) ts := by
  intro hn
  obtain ⟨g, o, rfl, hg, hcl⟩ := h (by simp)
  refine ⟨g, o + 3, ?_, hg, fun i j u hi hu => ?_⟩
  · unfold nextA
    rw [if_neg (by simp at hc; omega), Option.map_some, addZ]
  · have := hcl (i + 1) j u (by simp; omega) (by simpa using hu)
    rwa [show o + 3 + (i * 3 + j) = o + ((i + 1) * 3 + j) by omega]

/-- A reference's cells; the text gives the place. -/
def rcells (L : List Int) (x : Tok) : List Value := [.string (K.str x.t), .complex .f64 (Fl.fl (Pl.pos (L.take x.o)).1) (Fl.fl (Pl.pos (L.take x.o)).2)]
theorem rcells_len (L : List Int) (xs : List Tok) : (xs.flatMap (rcells L)).length = xs.length * 2 := by
  induction xs with
  | nil => rfl
  | cons x r ih => simp [List.flatMap_cons, ih, rcells]; omega
theorem rcells_at (L : List Int) (xs : List Tok) (i j : Nat) (hi : i < xs.length) (hj : j < 2) : (xs.flatMap (rcells L))[i * 2 + j]? = (rcells L xs[i])[j]? := by
  induction xs generalizing i with
  | nil => simp at hi
  | cons x r ih =>
    rw [List.flatMap_cons]
    have hl : (rcells L x).length = 2 := rfl
    cases i with
    | zero => rw [List.getElem?_append_left (by omega)]; simp
    | succ i =>
      rw [List.getElem?_append_right (by omega), hl, show (i + 1) * 2 + j - 2 = i * 2 + j by omega]
      simpa using ih i (by simpa using hi)
/-- A slice value's address A, with these references, in a block of references from block B on. -/
def RdR (L : List Int) (w : World) (B : Nat) (A : Option Addr) (xs : List Tok) : Prop :=
  xs.length ≠ 0 → ∃ (g : Nat) (cur : Array Value), A = some ⟨g, 0, none⟩ ∧ B ≤ g ∧ w.heap[g]? = some (.cells cur 85 (0, 0)) ∧ ∀ (j : Nat) (u : Value), (xs.flatMap (rcells L))[j]? = some u → cur[j]? = some u
theorem RdR.nil (L : List Int) (w : World) (B : Nat) (A : Option Addr) : RdR L w B A [] := fun h => absurd rfl h
/-- What is written to a block of another kind changes no references. -/
def Other (w : World) (row : Option Nat) : Prop := ∀ k, row = some k → ∀ cur, w.heap[k]? ≠ some (.cells cur 85 (0, 0))
theorem Other.none (w : World) : Other w .none := fun _ h => by cases h
theorem RdR.grown {L : List Int} {w w' : World} {B : Nat} {A : Option Addr} {xs : List Tok} {row : Option Nat} (h : RdR L w B A xs) (hg : w.grownBy w' row) (hr : Other w row) : RdR L w' B A xs := fun hn => by
  obtain ⟨g, cur, e, hB, hh, hc⟩ := h hn
  exact ⟨g, cur, e, hB, (hg.block g (Array.getElem?_eq_some_iff.1 hh).1 (fun e => hr g e.symm cur hh)).trans hh, hc⟩
theorem RdR.less {L : List Int} {w : World} {B B' : Nat} {A : Option Addr} {xs : List Tok} (h : RdR L w B A xs) (hB : B' ≤ B) : RdR L w B' A xs := fun hn => by
  obtain ⟨g, cur, e, hb, hh⟩ := h hn
  exact ⟨g, cur, e, by omega, hh⟩
theorem RdR.below {L : List Int} {w w' : World} {B : Nat} {A : Option Addr} {xs : List Tok} (h : RdR L w B A xs) (hb : Below w.heap.size w w') : RdR L w' B A xs := h.grown (only_below hb .none) (Other.none w)
theorem RdR.cell {L : List Int} {w : World} {B : Nat} {A : Option Addr} {xs : List Tok} (h : RdR L w B A xs) (h0 : xs.length ≠ 0) : ∃ g, A = some ⟨g, 0, none⟩ ∧ B ≤ g ∧ ∀ i j u, (hi : i < xs.length) → j < 2 → (rcells L xs[i])[j]? = some u → w.cell? ⟨g, i * 2 + j, none⟩ = some u := by
  obtain ⟨g, cur, e, hB, hh, hc⟩ := h h0
  refine ⟨g, e, hB, fun i j u hi hj hu => ?_⟩
  rw [cell_of_row w g _ _ _ _ hh]
  exact hc _ _ (by rw [rcells_at L xs i j hi hj]; exact hu)

/-- A slice of the call's own with these references, nil or not. -/
def OwnR (L : List Int) (w : World) (base : Nat) (v : Value) (xs : List Tok) : Prop := w.ownsRow base 85 2 v xs.length (xs.flatMap (rcells L))
theorem OwnR.nil (L : List Int) (w : World) (base : Nat) : OwnR L w base (.slice none 0 0) [] := World.ownsRow_nil w base _ _
theorem OwnR.alloc {L : List Int} {w : World} {base : Nat} {v : Value} {xs : List Tok} (h : OwnR L w base v xs) (o : Obj) : OwnR L (w.alloc o) base v xs := World.ownsRow.alloc h o
theorem OwnR.grown {L : List Int} {w w' : World} {base : Nat} {v : Value} {xs : List Tok} {row : Option Nat} (h : OwnR L w base v xs) (hg : w.grownBy w' row) (hr : Other w row) : OwnR L w' base v xs := by
  refine ⟨h.1, ?_⟩
  rcases h.2 with h0 | ⟨g, cap, cur, e, hb1, hh, hrr⟩
  · exact .inl h0
  · exact .inr ⟨g, cap, cur, e, hb1, (hg.block g (Array.getElem?_eq_some_iff.1 hh).1 (fun e => hr g e.symm cur hh)).trans hh, hrr⟩
theorem OwnR.below {L : List Int} {w w' : World} {base : Nat} {v : Value} {xs : List Tok} (h : OwnR L w base v xs) (hb : Below w.heap.size w w') : OwnR L w' base v xs := h.grown (only_below hb .none) (Other.none w)
theorem OwnR.rd {L : List Int} {w : World} {base : Nat} {v : Value} {xs : List Tok} (h : OwnR L w base v xs) : ∃ A c, v = .slice A xs.length c ∧ xs.length ≤ c ∧ c ≤ maxLen ∧ RdR L w base A xs := by
  rcases h.2 with ⟨rfl, h0⟩ | ⟨g, cap, cur, rfl, hb, hg, hn, hm, hs, ht⟩
  · exact ⟨none, 0, by rw [h0], by omega, by unfold maxLen; omega, fun hc => absurd h0 hc⟩
  · refine ⟨some ⟨g, 0, none⟩, cap, rfl, hn, hm, fun _ => ⟨g, cur, rfl, hb, hg, fun j u hu => ?_⟩⟩
    rw [← ht] at hu
    have hj := (List.getElem?_eq_some_iff.1 hu).1
    rw [List.length_take] at hj
    rw [List.getElem?_take_of_lt (by omega)] at hu
    simpa using hu
theorem infoR : (Tryz.prog.info? 85).map (fun i => (i.zero, i.size, i.bytes)) = some (some (.agg #[.string ⟨#[]⟩, .complex .f64 0 0]), 2, 32) := by kernel_rfl

/-- append of one reference, which lies in a block of its own, to a slice of the call's own. -/
theorem apR_arm {w : World} {ops : Array Oper} {rest : List Oper} {o : Oper} {a : Act} {Q : Exit → Act → World → Prop}
    (hgd : o.guard = none) (s x : Operand) (t : TypeId) (ho : o.op = .call { callee := .builtin .append, args := #[s, x], argTypes := #[t, t] }) (ht : Tryz.prog.underlying t = some (.slice 85))
    (L : List Int) (base : Nat) (v : Value) (xs : List Tok) (hs : a.eval s = v) (hown : OwnR L w base v xs) (g c : Nat) (y : Tok) (hx : a.eval x = .slice (some ⟨g, 0, none⟩) 1 c) (hz : ∀ j u, (rcells L y)[j]? = some u → w.cell? ⟨g, j, none⟩ = some u)
    (hlen : xs.length ≤ 1000000) (hbase : base ≤ w.heap.size)
    (hK : ∀ v' w', OwnR L w' base v' (xs ++ [y]) → w.grownBy w' v.ownBlock → wpList Tryz.prog ops Q rest (a.put o.dst v') w') :
    wpList Tryz.prog ops Q (o :: rest) a w := by
  obtain ⟨i, hi, hz0, hz1, hz2⟩ := info_parts infoR
  refine wpList_append_own w hgd s x t ho base 85 i _ 2 32 ht hi hz0 hz1 hz2 rfl (by decide) v xs.length (xs.flatMap (rcells L)) hs hown ⟨g, 0, none⟩ 1 c (rcells L y) hx rfl ?_ ?_ (by unfold maxLen; omega) (by omega) hbase fun v' w' h1 h2 _ => hK v' w' ?_ h2
  · intro j u hj
    rw [addZ, Nat.zero_add]
    exact hz j u hj
  · intro u hu; simp [rcells] at hu; rcases hu with rfl | rfl <;> rfl
  · unfold OwnR
    rw [List.length_append, List.flatMap_append, List.flatMap_singleton]; exact h1
theorem _root_.Go.World.grownBy.row {w w' : World} (h : w.grownBy w' .none) (row : Option Nat) : w.grownBy w' row := ⟨h.os, h.tape, h.output, h.size, fun k hk _ => h.block k hk (by simp)⟩
/-- What turns a block of the call's own leaves what there was. -/
theorem grown_own {a w w' : World} {row : Option Nat} {e : TypeId} {size n : Nat} {v : Value} {xs : List Value} (h : a.grownBy w row) (ho : w.ownsRow a.heap.size e size v n xs) (hg : w.grownBy w' v.ownBlock) : a.grownBy w' row :=
  ⟨hg.os.trans h.os, hg.tape.trans h.tape, hg.output.trans h.output, Nat.le_trans h.size hg.size, fun k hk hne => (hg.block k (Nat.lt_of_lt_of_le hk h.size) (fun e => by have := (World.ownsRow.lt ho k e.symm).1; omega)).trans (h.block k hk hne)⟩
/-- A reference that is made lies there. -/
theorem ref_cells (L : List Int) (w : World) (t : Tok) : ∀ j u, (rcells L t)[j]? = some u → (w.alloc (.cells #[.string (K.str t.t), .complex .f64 (Fl.fl (Pl.pos (L.take t.o)).1) (Fl.fl (Pl.pos (L.take t.o)).2)] 85)).cell? ⟨w.heap.size, j, none⟩ = some u := by
  intro j u hu
  rw [World.cell?_alloc_new]
  simpa [rcells] using hu
/-- A block that was made before a call is as it was made. -/
theorem block_kept {w w2 : World} {o : Obj} {R : Nat} (h : (w.alloc o).grownBy w2 (some R)) (hR : R < w.heap.size) : w2.heap[w.heap.size]? = some o := by
  rw [h.block w.heap.size (by simp) (fun e => by injection e with e; omega)]
  exact heap_alloc_new w o
theorem only_far {a w : World} {row : Option Nat} (h : a.grownBy w row) (g i : Nat) (u : Value) (hg : a.heap.size ≤ g) : a.grownBy (w.setCell ⟨g, i, none⟩ u) row :=
  ⟨h.os, h.tape, h.output, by simpa [World.setCell] using h.size, fun k hk hne => (Below.heap_setCell w ⟨g, i, none⟩ u k (by simp only; omega)).trans (h.block k hk hne)⟩
end Go.Proofs.YtfiijndmlmddbaaGreat

namespace Go.Proofs.YtfiijndmlmddbaaGreat
set_option maxRecDepth 100000
open Go.RowKit

def slLen (v : Value) : Nat := match v with | .slice _ n _ => n | _ => 0
/-- What is answered of a text. -/
def ToksAns (L : List Int) (r : Out) (w : World) (e : Ending) (w' : World) : Prop :=
  match r with
  | .ok xs => ∃ v, e = .returned (.tuple #[v, .complex .f64 (Fl.fl (Pl.pos L).1) (Fl.fl (Pl.pos L).2), .int .i64 0]) ∧ OwnT L w' w.heap.size v xs ∧ Below w.heap.size w w'
  | .bad o d => e = .returned (.tuple #[.slice none 0 0, .complex .f64 (Fl.fl (Pl.pos (L.take o)).1) (Fl.fl (Pl.pos (L.take o)).2), .int .i64 d]) ∧ Below w.heap.size w w'
end Go.Proofs.YtfiijndmlmddbaaGreat

namespace Go.Proofs.YtfiijndmlmddbaaGreat
set_option maxRecDepth 100000
open Go.RowKit

def refV (L : List Int) (t : Tok) : Value := .agg #[.string (K.str t.t), .complex .f64 (Fl.fl (Pl.pos (L.take t.o)).1) (Fl.fl (Pl.pos (L.take t.o)).2)]

theorem slice_next (w : World) (A : Option Addr) (c n : Nat) (hk : 1 ≤ n) : (Instr.sliceAt 79 (.slice A n c) (some (.int .i64 1)) none none).run Tryz.prog w = .ok (.slice (nextA A c) (n - 1) (c - 1)) w := by
  rw [run_sliceAt_slice _ _ _ _ _ _ (by kernel_rfl), run_slice_l _ _ _ _ _ (by kernel_rfl) .i64 (1 : Int) (by omega) (by omega)]
  have hs : (sizeOf (Tryz.prog.elem 79)).run Tryz.prog w = .ok 3 w := by kernel_rfl
  rw [hs]
  simp [Result.andThen, sliced, nextA]

end Go.Proofs.YtfiijndmlmddbaaGreat

namespace Go.Proofs.YtfiijndmlmddbaaGreat
set_option maxRecDepth 100000
open Go.RowKit

/-- A rule's cells, where its right side is a value; a declaration's. -/
def precells (L : List Int) : Option Tok → List Value
  | none => [.string ⟨#[]⟩, .complex .f64 0 0]
  | some t => rcells L t
def pcells (L : List Int) (p : Y.Prd) (A : Option Addr) (c : Nat) : List Value := rcells L p.l ++ [.slice A p.r.length c] ++ precells L p.p
def dcells (d : Y.Dcl) (A : Option Addr) (c : Nat) : List Value := [.int .i64 d.k, .slice A d.ns.length c]
/-- A rule, or a declaration, and where its references lie. -/
abbrev PA := Y.Prd × Option Addr × Nat
abbrev DA := Y.Dcl × Option Addr × Nat
def pall (L : List Int) (qs : List PA) : List Value := qs.flatMap fun q => pcells L q.1 q.2.1 q.2.2
def dall (qs : List DA) : List Value := qs.flatMap fun q => dcells q.1 q.2.1 q.2.2
theorem pcells_len (L : List Int) (p : Y.Prd) (A : Option Addr) (c : Nat) : (pcells L p A c).length = 5 := by
  unfold pcells precells
  split <;> rfl
theorem pall_at (L : List Int) (qs : List PA) (i j : Nat) (hi : i < qs.length) (hj : j < 5) : (pall L qs)[i * 5 + j]? = (pcells L qs[i].1 qs[i].2.1 qs[i].2.2)[j]? := by
  unfold pall
  induction qs generalizing i with
  | nil => simp at hi
  | cons x r ih =>
    rw [List.flatMap_cons]
    have hl := pcells_len L x.1 x.2.1 x.2.2
    cases i with
    | zero => rw [List.getElem?_append_left (by omega)]; simp
    | succ i =>
      rw [List.getElem?_append_right (by omega), hl, show (i + 1) * 5 + j - 5 = i * 5 + j by omega]
      simpa using ih i (by simpa using hi)
theorem dall_at (qs : List DA) (i j : Nat) (hi : i < qs.length) (hj : j < 2) : (dall qs)[i * 2 + j]? = (dcells qs[i].1 qs[i].2.1 qs[i].2.2)[j]? := by
  unfold dall
  induction qs generalizing i with
  | nil => simp at hi
  | cons x r ih =>
    rw [List.flatMap_cons]
    have hl : (dcells x.1 x.2.1 x.2.2).length = 2 := rfl
    cases i with
    | zero => rw [List.getElem?_append_left (by omega)]; simp
    | succ i =>
      rw [List.getElem?_append_right (by omega), hl, show (i + 1) * 2 + j - 2 = i * 2 + j by omega]
      simpa using ih i (by simpa using hi)

/-- Slices of the call's own with these rules, these declarations. -/
def OwnP (L : List Int) (w : World) (base : Nat) (v : Value) (ps : List Y.Prd) : Prop :=
  ∃ qs : List PA, qs.map (·.1) = ps ∧ w.ownsRow base 93 5 v ps.length (pall L qs) ∧ ∀ q ∈ qs, RdR L w base q.2.1 q.1.r
def OwnD (L : List Int) (w : World) (base : Nat) (v : Value) (ds : List Y.Dcl) : Prop :=
  ∃ qs : List DA, qs.map (·.1) = ds ∧ w.ownsRow base 114 2 v ds.length (dall qs) ∧ ∀ q ∈ qs, RdR L w base q.2.1 q.1.ns
theorem OwnP.nil (L : List Int) (w : World) (base : Nat) : OwnP L w base (.slice none 0 0) [] := ⟨[], rfl, World.ownsRow_nil w base _ _, fun q h => by cases h⟩
theorem OwnD.nil (L : List Int) (w : World) (base : Nat) : OwnD L w base (.slice none 0 0) [] := ⟨[], rfl, World.ownsRow_nil w base _ _, fun q h => by cases h⟩
/-- What is written lies neither in references nor in a slice. -/
def Away (w : World) (v : Value) (row : Option Nat) : Prop := Other w row ∧ (v.ownBlock = none ∨ v.ownBlock ≠ row)
theorem Away.none (w : World) (v : Value) : Away w v .none := ⟨Other.none w, by rcases v.ownBlock with _ | k; exact .inl rfl; exact .inr (by simp)⟩
theorem OwnP.grown {L : List Int} {w w' : World} {base : Nat} {v : Value} {ps : List Y.Prd} {row : Option Nat} (h : OwnP L w base v ps) (hg : w.grownBy w' row) (ha : Away w v row) : OwnP L w' base v ps := by
  obtain ⟨qs, h1, h2, h3⟩ := h
  exact ⟨qs, h1, h2.kept hg ha.2, fun q hq => (h3 q hq).grown hg ha.1⟩
theorem OwnD.grown {L : List Int} {w w' : World} {base : Nat} {v : Value} {ds : List Y.Dcl} {row : Option Nat} (h : OwnD L w base v ds) (hg : w.grownBy w' row) (ha : Away w v row) : OwnD L w' base v ds := by
  obtain ⟨qs, h1, h2, h3⟩ := h
  exact ⟨qs, h1, h2.kept hg ha.2, fun q hq => (h3 q hq).grown hg ha.1⟩
theorem own_other {w : World} {base : Nat} {v : Value} {n : Nat} {size : Nat} {e : TypeId} {xs : List Value} (h : w.ownsRow base e size v n xs) (he : e ≠ 85) : Other w v.ownBlock := by
  intro k hk cur hc
  rcases h.2 with ⟨rfl, _⟩ | ⟨g, cap, cur', rfl, _, hg, _⟩
  · cases hk
  · injection hk with hk
    subst hk
    have hg' : w.heap[g]? = some (.cells cur 85 (0, 0)) := hc
    rw [hg] at hg'
    injection hg' with e1
    injection e1 with _ e2
    exact he e2
theorem OwnP.form {L : List Int} {w : World} {base : Nat} {v : Value} {ps : List Y.Prd} (h : OwnP L w base v ps) : ∃ A c, v = .slice A ps.length c ∧ ps.length ≤ c ∧ c ≤ maxLen := by
  obtain ⟨qs, h1, h2, h3⟩ := h
  rcases h2.2 with ⟨rfl, h0⟩ | ⟨g, cap, cur, rfl, hb, hg, hn, hm, hs, ht⟩
  · exact ⟨none, 0, by rw [h0], by omega, by unfold maxLen; omega⟩
  · exact ⟨_, cap, rfl, hn, hm⟩
theorem OwnD.form {L : List Int} {w : World} {base : Nat} {v : Value} {ds : List Y.Dcl} (h : OwnD L w base v ds) : ∃ A c, v = .slice A ds.length c ∧ ds.length ≤ c ∧ c ≤ maxLen := by
  obtain ⟨qs, h1, h2, h3⟩ := h
  rcases h2.2 with ⟨rfl, h0⟩ | ⟨g, cap, cur, rfl, hb, hg, hn, hm, hs, ht⟩
  · exact ⟨none, 0, by rw [h0], by omega, by unfold maxLen; omega⟩
  · exact ⟨_, cap, rfl, hn, hm⟩
theorem infoP : (Tryz.prog.info? 93).map (fun i => (i.zero, i.size, i.bytes)) = some (some (.agg #[.string ⟨#[]⟩, .complex .f64 0 0, .slice none 0 0, .string ⟨#[]⟩, .complex .f64 0 0]), 5, 88) := by kernel_rfl
theorem infoD : (Tryz.prog.info? 114).map (fun i => (i.zero, i.size, i.bytes)) = some (some (.agg #[.int .i64 0, .slice none 0 0]), 2, 32) := by kernel_rfl
theorem pcells_one (L : List Int) (p : Y.Prd) (A : Option Addr) (c : Nat) : ∀ u ∈ pcells L p A c, u.oneCell' = true := by
  intro u hu
  unfold pcells precells at hu
  split at hu <;> simp [rcells] at hu <;> rcases hu with rfl | rfl | rfl | rfl | rfl <;> rfl

/-- append of one rule, which lies in a block of its own, to a slice of the call's own. -/
theorem apP_arm {w : World} {ops : Array Oper} {rest : List Oper} {o : Oper} {a : Act} {Q : Exit → Act → World → Prop}
    (hgd : o.guard = none) (s x : Operand) (t : TypeId) (ho : o.op = .call { callee := .builtin .append, args := #[s, x], argTypes := #[t, t] }) (ht : Tryz.prog.underlying t = some (.slice 93))
    (L : List Int) (base : Nat) (v : Value) (ps : List Y.Prd) (hs : a.eval s = v) (hown : OwnP L w base v ps) (g c : Nat) (p : Y.Prd) (A : Option Addr) (pc : Nat) (hx : a.eval x = .slice (some ⟨g, 0, none⟩) 1 c) (hz : ∀ j u, (pcells L p A pc)[j]? = some u → w.cell? ⟨g, j, none⟩ = some u) (hr : RdR L w base A p.r)
    (hlen : ps.length ≤ 1000000) (hbase : base ≤ w.heap.size)
    (hK : ∀ v' w', OwnP L w' base v' (ps ++ [p]) → w.grownBy w' v.ownBlock → wpList Tryz.prog ops Q rest (a.put o.dst v') w') :
    wpList Tryz.prog ops Q (o :: rest) a w := by
  obtain ⟨i, hi, hz0, hz1, hz2⟩ := info_parts infoP
  obtain ⟨qs, hq1, hq2, hq3⟩ := hown
  have hlq : qs.length = ps.length := by rw [← hq1, List.length_map]
  refine wpList_append_own w hgd s x t ho base 93 i _ 5 88 ht hi hz0 hz1 hz2 rfl (by decide) v ps.length (pall L qs) hs hq2 ⟨g, 0, none⟩ 1 c (pcells L p A pc) hx (by rw [pcells_len]) ?_ (pcells_one L p A pc) (by unfold maxLen; omega) (by omega) hbase fun v' w' h1 h2 _ => hK v' w' ?_ h2
  · intro j u hj
    rw [addZ, Nat.zero_add]
    exact hz j u hj
  · have ho := own_other hq2 (by decide)
    refine ⟨qs ++ [(p, A, pc)], by rw [List.map_append, hq1]; rfl, ?_, fun q hq => ?_⟩
    · rw [List.length_append]
      unfold pall
      rw [List.flatMap_append, List.flatMap_singleton]
      exact h1
    · rcases List.mem_append.1 hq with h | h
      · exact (hq3 q h).grown h2 ho
      · rw [List.mem_singleton] at h
        subst h
        exact hr.grown h2 ho
theorem drew_grown (w : World) (row : Option Nat) : w.grownBy w.drew row := ⟨rfl, rfl, rfl, Nat.le_refl _, fun _ _ _ => rfl⟩
theorem block_at {w w2 : World} {g R : Nat} {o : Obj} (h : w.grownBy w2 (some R)) (ho : w.heap[g]? = some o) (hne : g ≠ R) : w2.heap[g]? = some o := by
  rw [h.block g (Array.getElem?_eq_some_iff.1 ho).1 (fun e => by injection e with e; omega)]; exact ho
theorem other_of {w : World} {g : Nat} {cs : Array Value} {t : TypeId} (h : w.heap[g]? = some (.cells cs t (0, 0))) (ht : t ≠ 85) : Other w (some g) := by
  intro k hk cur hc
  injection hk with hk
  subst hk
  rw [h] at hc
  injection hc with hc
  injection hc with _ hc
  exact ht hc
theorem precells_two (L : List Int) (p : Option Tok) : ∃ x3 x4, precells L p = [x3, x4] := by cases p <;> exact ⟨_, _, rfl⟩
theorem ref_block {w w' : World} {g : Nat} {cs : Array Value} {row : Option Nat} (h : w.heap[g]? = some (.cells cs 85 (0, 0))) (hg : w.grownBy w' row) (ho : Other w row) : w'.heap[g]? = some (.cells cs 85 (0, 0)) :=
  (hg.block g (Array.getElem?_eq_some_iff.1 h).1 (fun e => ho g e.symm cs h)).trans h
theorem OwnP.own {L : List Int} {w : World} {base : Nat} {v : Value} {ps : List Y.Prd} (h : OwnP L w base v ps) : ∃ xs, w.ownsRow base 93 5 v ps.length xs := by
  obtain ⟨qs, _, h2, _⟩ := h; exact ⟨_, h2⟩
theorem OwnD.own {L : List Int} {w : World} {base : Nat} {v : Value} {ds : List Y.Dcl} (h : OwnD L w base v ds) : ∃ xs, w.ownsRow base 114 2 v ds.length xs := by
  obtain ⟨qs, _, h2, _⟩ := h; exact ⟨_, h2⟩
theorem OwnP.other {L : List Int} {w : World} {base : Nat} {v : Value} {ps : List Y.Prd} (h : OwnP L w base v ps) : Other w v.ownBlock := by
  obtain ⟨xs, h2⟩ := h.own; exact own_other h2 (by decide)
theorem OwnD.other {L : List Int} {w : World} {base : Nat} {v : Value} {ds : List Y.Dcl} (h : OwnD L w base v ds) : Other w v.ownBlock := by
  obtain ⟨xs, h2⟩ := h.own; exact own_other h2 (by decide)
theorem drop_len (p : Tok → Bool) : ∀ ts : List Tok, (ts.dropWhile p).length ≤ ts.length
  | [] => Nat.le_refl _
  | t :: r => by
    have := drop_len p r
    rw [List.dropWhile_cons]
    split
    · simp; omega
    · exact Nat.le_refl _
theorem rule_len {left : Tok} {ts r : List Tok} {p : Y.Prd} (h : Y.rule left ts = .ok p r) : r.length ≤ ts.length := by
  unfold Y.rule Y.rule2 at h
  have hd := drop_len Y.isRef ts
  split at h
  · obtain ⟨t, m, h1, h2⟩ := Y.bind_eq_ok h
    obtain ⟨u, m2, h3, h4⟩ := Y.bind_eq_ok h2
    injection h4 with _ h5
    subst h5
    have e1 := congrArg List.length (Y.take_ok h1).1
    have e2 := congrArg List.length (Y.take_ok h3).1
    simp at e1 e2
    omega
  · injection h with _ h5
    subst h5
    exact hd
/-- A block of five, of two cells that is stored whole. -/
theorem store5 {w : World} {g : Nat} {t : TypeId} {a0 a1 a2 a3 a4 : Value} (h : w.heap[g]? = some (.cells #[a0, a1, a2, a3, a4] t (0, 0))) (b0 b1 b2 b3 b4 : Value) :
    (((((w.setCell ⟨g, 0, none⟩ b0).setCell ⟨g, 1, none⟩ b1).setCell ⟨g, 2, none⟩ b2).setCell ⟨g, 3, none⟩ b3).setCell ⟨g, 4, none⟩ b4).heap[g]? = some (.cells #[b0, b1, b2, b3, b4] t (0, 0)) := by
  have h0 := heap_setCell_same w g 0 _ _ b0 h
  have h1 := heap_setCell_same _ g 1 _ _ b1 h0
  have h2 := heap_setCell_same _ g 2 _ _ b2 h1
  have h3 := heap_setCell_same _ g 3 _ _ b3 h2
  have h4 := heap_setCell_same _ g 4 _ _ b4 h3
  exact h4
theorem size_set (w : World) (p : Addr) (u : Value) : (w.setCell p u).heap.size = w.heap.size := by simp [World.setCell]
end Go.Proofs.YtfiijndmlmddbaaGreat

namespace Go.Proofs.YtfiijndmlmddbaaGreat
set_option maxRecDepth 100000
open Go.RowKit

theorem own_lit (L : List Int) (w : World) (base : Nat) (t : Tok) (hb : base ≤ w.heap.size) : OwnR L (w.alloc (.cells #[.string (K.str t.t), .complex .f64 (Fl.fl (Pl.pos (L.take t.o)).1) (Fl.fl (Pl.pos (L.take t.o)).2)] 85)) base (.slice (some ⟨w.heap.size, 0, none⟩) 1 1) [t] :=
  World.ownsRow_lit w #[.string (K.str t.t), .complex .f64 (Fl.fl (Pl.pos (L.take t.o)).1) (Fl.fl (Pl.pos (L.take t.o)).2)] 1 hb (by unfold maxLen; omega) rfl

/-- append of a list of references to a slice of the call's own, met as one operation. -/
theorem apnR_wp {w : World} {o : Oper} {a : Act} {K : Act → World → Prop} {Q : Exit → Act → World → Prop}
    (s x : Operand) (t : TypeId) (ho : o.op = .call { callee := .builtin .append, args := #[s, x], argTypes := #[t, t] }) (ht : Tryz.prog.underlying t = some (.slice 85))
    (L : List Int) (base B : Nat) (v : Value) (xs : List Tok) (hs : a.eval s = v) (hown : OwnR L w base v xs) (A : Option Addr) (m c : Nat) (ys : List Tok) (hx : a.eval x = .slice A m c) (hm : m = ys.length) (hr : RdR L w B A ys)
    (hlen : xs.length + ys.length ≤ 1000000) (hbase : base ≤ w.heap.size)
    (hK : ∀ v' w', OwnR L w' base v' (xs ++ ys) → w.grownBy w' v.ownBlock → K (a.put o.dst v') w') :
    o.wp Tryz.prog a w K Q := by
  obtain ⟨i, hi, hz0, hz1, hz2⟩ := info_parts infoR
  subst hm
  rcases A with _ | ad
  · have hz : ys = [] := by
      rcases Nat.eq_zero_or_pos ys.length with h0 | h0
      · exact List.eq_nil_of_length_eq_zero h0
      · obtain ⟨g, o', h, _⟩ := hr (by omega); cases h
    subst hz
    have hrun := run_append_nil (P := Tryz.prog) w base t o.type 85 i 2 ht hi v xs.length _ hown c
    unfold Oper.wp
    simp [execOp, ho, resolve, invoke, builtin, hs, hx, hrun, Result.andThen]
    exact hK v w (by simpa using hown) (World.grownBy.refl _ _)
  · refine wp_append_own w s x t ho base 85 i _ 2 32 ht hi hz0 hz1 hz2 rfl (by decide) v xs.length (xs.flatMap (rcells L)) hs hown ad ys.length c (ys.flatMap (rcells L)) hx (rcells_len L ys) ?_ ?_ (by unfold maxLen; omega) (by omega) hbase fun v' w' h1 h2 _ => hK v' w' ?_ h2
    · intro j u hj
      have hjl : j < (ys.flatMap (rcells L)).length := (List.getElem?_eq_some_iff.1 hj).1
      rw [rcells_len] at hjl
      obtain ⟨g, cur, h, _, hh, hc⟩ := hr (by omega)
      replace h := Option.some.inj h
      subst h
      rw [addZ, Nat.zero_add, cell_of_row w g _ _ _ _ hh]
      exact hc j u hj
    · intro u hu
      obtain ⟨z, _, hz⟩ := List.mem_flatMap.1 hu
      simp [rcells] at hz; rcases hz with rfl | rfl <;> rfl
    · unfold OwnR
      rw [List.length_append, List.flatMap_append]; exact h1
end Go.Proofs.YtfiijndmlmddbaaGreat

namespace Go.Proofs.YtfiijndmlmddbaaGreat
set_option maxRecDepth 100000
open Go.RowKit

/-- The document's reader, at a place where nothing is wrong yet. -/
def Rd8 (L : List Int) (B R px py : Nat) (w : World) (ts : List Tok) : Prop :=
  ∃ A c, w.heap[R]? = some (.cells #[.slice A ts.length c, .complex .f64 px py, .complex .f64 0 0, .int .i64 0] 108 (0, 0)) ∧ ts.length ≤ c ∧ ts.length ≤ 4000 ∧ RdT L w B A ts ∧ B ≤ R
theorem Rd8.lt {L : List Int} {B R px py : Nat} {w : World} {ts : List Tok} (h : Rd8 L B R px py w ts) : R < w.heap.size := by
  obtain ⟨A, c, hh, _⟩ := h
  exact (Array.getElem?_eq_some_iff.1 hh).1
theorem Rd8.other {L : List Int} {B R px py : Nat} {w : World} {ts : List Tok} (h : Rd8 L B R px py w ts) : Other w (some R) := by
  obtain ⟨A, c, hh, _⟩ := h
  intro k hk cur he
  injection hk with hk
  subst hk
  rw [hh] at he
  injection he with he
  injection he with _ he
  cases he
theorem Rd8.grown {L : List Int} {B R px py : Nat} {w w' : World} {ts : List Tok} {row : Option Nat} (h : Rd8 L B R px py w ts) (hg : w.grownBy w' row) (hr : ∀ k, row = some k → R < k) : Rd8 L B R px py w' ts := by
  have hlt := h.lt
  obtain ⟨A, c, hh, h1, h2, h3, h4⟩ := h
  exact ⟨A, c, (hg.block R hlt (fun e => by have := hr R e.symm; omega)).trans hh, h1, h2, h3.grown hg (fun k e => by have := hr k e; omega) (by omega), h4⟩
theorem Rd8.alloc {L : List Int} {B R px py : Nat} {w : World} {ts : List Tok} (h : Rd8 L B R px py w ts) (o : Obj) : Rd8 L B R px py (w.alloc o) ts :=
  h.grown (row := .none) (only_alloc (World.grownBy.refl _ _) o) (fun _ e => by cases e)
theorem Rd8.own {L : List Int} {B R px py base : Nat} {w w' : World} {ts : List Tok} {e : TypeId} {size n : Nat} {v : Value} {xs : List Value} (h : Rd8 L B R px py w ts) (ho : w.ownsRow base e size v n xs) (hg : w.grownBy w' v.ownBlock) (hb : R < base) : Rd8 L B R px py w' ts :=
  h.grown hg (fun k e => by have := (World.ownsRow.lt ho k e).1; omega)
theorem Rd8.far {L : List Int} {B R px py : Nat} {w : World} {ts : List Tok} (h : Rd8 L B R px py w ts) (g i : Nat) (u : Value) (hg : R < g) : Rd8 L B R px py (w.setCell ⟨g, i, none⟩ u) ts :=
  h.grown (only_set (World.grownBy.refl w (some g)) i u) (fun k e => by injection e with e; omega)
theorem Rd8.cell0 {L : List Int} {B R px py : Nat} {w : World} {ts : List Tok} (h : Rd8 L B R px py w ts) : ∃ A c, w.cell? ⟨R, 0, none⟩ = some (.slice A ts.length c) ∧ w.cell? ⟨R, 3, none⟩ = some (.int .i64 0) ∧ w.frozen? ⟨R, 0, none⟩ = false ∧ ts.length ≤ c ∧ RdT L w B A ts ∧
    ∀ A' c' ts', ts'.length ≤ c' → ts'.length ≤ 4000 → RdT L w B A' ts' → Rd8 L B R px py (w.setCell ⟨R, 0, none⟩ (.slice A' ts'.length c')) ts' := by
  obtain ⟨A, c, hh, h1, h2, h3, h4⟩ := h
  refine ⟨A, c, by rw [cell_of_row w R 0 _ _ _ hh]; rfl, by rw [cell_of_row w R 3 _ _ _ hh]; rfl, frozen_of_row w R 0 _ _ hh, h1, h3, fun A' c' ts' k1 k2 k3 => ⟨A', c', ?_, k1, k2, ?_, h4⟩⟩
  · rw [heap_setCell_same w R 0 _ _ _ hh]; rfl
  · exact k3.keep fun g o hg => World.cell?_of_block (Below.heap_setCell w ⟨R, 0, none⟩ _ g (by simp only; omega))
/-- The next token's kind. -/
def kd : List Tok → Int
  | [] => 0
  | t :: _ => t.k

theorem kind8 (L : List Int) (B R px py : Nat) (ts : List Tok) (w : World) (hr : Rd8 L B R px py w ts) :
    Calls Tryz.prog 83 #[.pointer (some ⟨R, 0, none⟩)] w fun e w' => e = .returned (.int .i64 (kd ts)) ∧ w = w' := by
  obtain ⟨A, c, h0, h3, _, hc, ht, _⟩ := hr.cell0
  rcases ts with _ | ⟨t, r⟩
  · clear hr ht
    go_enter Tryz.func83, Tryz.ntmps83
    go_wp2
    go_ret
    exact ⟨rfl, rfl⟩
  · obtain ⟨g, o, rfl, _, hcl⟩ := ht (by simp)
    have hcell : w.cell? ⟨g, o, none⟩ = some (.int .i64 t.k) := hcl 0 0 _ (by simp) rfl
    have hl : 0 < ((t :: r).length : Int) := by simp
    have hl0 : (((t :: r).length : Int) == 0) = false := by simp; omega
    have HK : Hid (kd (t :: r) = t.k) := hide rfl
    rw [HK.out]
    clear hr ht hcl
    generalize (t :: r).length = n at *
    generalize t.k = z at *
    go_enter Tryz.func83, Tryz.ntmps83
    go_wp2
    go_ret
    exact ⟨rfl, rfl⟩
theorem is8 (L : List Int) (B R px py : Nat) (ts : List Tok) (a b : Int) (w : World) (hr : Rd8 L B R px py w ts) :
    Calls Tryz.prog 102 #[.pointer (some ⟨R, 0, none⟩), .int .i64 a, .int .i64 b] w fun e w' => e = .returned (.bool (Y.is [a, b] ts)) ∧ w = w' := by
  have HK := hide (kind8 L B R px py ts w hr)
  obtain ⟨A, c, h0, h3, _, hc, ht, _⟩ := hr.cell0
  rcases ts with _ | ⟨t, r⟩
  · clear hr ht
    go_enter Tryz.func102, Tryz.ntmps102
    go_wp2
    go_ret
    exact ⟨rfl, rfl⟩
  · have hl : 0 < ((t :: r).length : Int) := by simp
    have HE : Hid (Y.is [a, b] (t :: r) = ((t.k == a) || (t.k == b))) := hide (by show [a, b].contains t.k = _; simp [List.contains, List.elem]; cases (t.k == a) <;> cases (t.k == b) <;> rfl)
    have HK2 : Hid (kd (t :: r) = t.k) := hide rfl
    rw [HE.out]
    rw [HK2.out] at HK
    clear hr ht
    generalize (t :: r).length = n at *
    generalize t.k = z at *
    by_cases ha : z = a
    · have ha' : (z == a) = true := by simpa using ha
      rw [ha', Bool.true_or]
      clear ha
      go_enter Tryz.func102, Tryz.ntmps102
      go_wp2_with fail
      refine HK.out.mono ?_; rintro _ _ ⟨rfl, rfl⟩
      go_wp2
      go_ret
      exact ⟨rfl, rfl⟩
    · have ha' : (z == a) = false := by simpa using ha
      rw [ha', Bool.false_or]
      clear ha
      generalize hb : (z == b) = q at *
      go_enter Tryz.func102, Tryz.ntmps102
      go_wp2_with fail
      refine HK.out.mono ?_; rintro _ _ ⟨rfl, rfl⟩
      go_wp2_with fail
      refine HK.out.mono ?_; rintro _ _ ⟨rfl, rfl⟩
      go_wp2
      go_ret
      exact ⟨rfl, rfl⟩

set_option maxHeartbeats 2000000 in
theorem take8 (L : List Int) (B R px py : Nat) (t : Tok) (r : List Tok) (a b : Int) (w : World) (hr : Rd8 L B R px py w (t :: r)) (hk : Y.is [a, b] (t :: r) = true) :
    Calls Tryz.prog 81 #[.pointer (some ⟨R, 0, none⟩), .int .i64 a, .int .i64 b] w fun e w' => e = .returned (refV L t) ∧ w.grownBy w' (some R) ∧ Rd8 L B R px py w' r := by
  have HR := hide (fun (w1 : World) (h1 : Below w.heap.size w w1) => hr.grown (row := .none) (only_below h1 .none) (fun _ e => by cases e))
  have HB0 := hide (fun o => ((Below.refl w.heap.size w).alloc (Nat.le_refl _) o))
  have hlt := hr.lt
  obtain ⟨A, c, h0, h3, hf, hc, ht, hset⟩ := hr.cell0
  obtain ⟨g, o, hA, hgB, hcl⟩ := ht (by simp)
  have hc0 : w.cell? ⟨g, o, none⟩ = some (.int .i64 t.k) := hcl 0 0 _ (by simp) rfl
  have hc1 : w.cell? ⟨g, o + 1, none⟩ = some (.string (K.str t.t)) := hcl 0 1 _ (by simp) rfl
  have hc2 : w.cell? ⟨g, o + 2, none⟩ = some (.complex .f64 (Fl.fl (Pl.pos (L.take t.o)).1) (Fl.fl (Pl.pos (L.take t.o)).2)) := hcl 0 2 _ (by simp) rfl
  have hglt : g < w.heap.size := by obtain ⟨_, _, _, _, _, _, hBR⟩ := hr; omega
  have HIS := hide (fun (w1 : World) (h1 : Below w.heap.size w w1) => is8 L B R px py (t :: r) a b w1 (HR.out w1 h1))
  rw [hk] at HIS
  have HT := hide (ht.tail hc)
  have HSET := hide hset
  have S1 := fun w => slice_next w A c (t :: r).length (by simp)
  have SC := fun a w m X Y => show (store a (.complex .f64 X Y) m).run Tryz.prog w = stored Tryz.prog w a (.complex .f64 X Y) m from run_store _ w a _ m rfl
  have hl0 : (((t :: r).length : Int) == 0) = false := by simp; omega
  have hl1 : 0 < (t :: r).length := by simp
  have HN : Hid ((t :: r).length = r.length + 1 ∧ r.length + 1 ≤ c ∧ r.length + 1 ≤ 4000) := hide ⟨rfl, hc, by obtain ⟨_, _, _, _, h4, _, _⟩ := hr; simpa using h4⟩
  unfold refV
  clear hr ht hcl hset hk
  subst hA
  generalize (t :: r).length = n at *
  generalize t.k = z at *
  generalize K.str t.t = st at *
  generalize Fl.fl (Pl.pos (L.take t.o)).1 = X at *
  generalize Fl.fl (Pl.pos (L.take t.o)).2 = Y' at *
  go_enter Tryz.func81, Tryz.ntmps81
  go_wp2_with fail
  refine (HIS.out _ (HB0.out _)).mono ?_; rintro _ w2 ⟨rfl, rfl⟩
  go_wp2
  have hk := HSET.out (nextA (some ⟨g, o, none⟩) c) (c - 1) r (by have := HN.out; omega) (by have := HN.out; omega) HT.out
  refine bodyPost_ret (v := .agg #[.string st, .complex .f64 X Y']) (by simp [results, Tryz.results81, go_sem]) rfl ⟨rfl, only_alloc (only_alloc (only_set (World.grownBy.refl _ _) _ _) _) _, ?_⟩
  rw [show n - 1 = r.length by have := HN.out; omega]
  exact (hk.alloc _).alloc _

/-- What refs answers. -/
def Refs8 (L : List Int) (B R px py : Nat) (ts : List Tok) (w : World) (e : Ending) (w' : World) : Prop :=
  w.grownBy w' (some R) ∧ ∃ v, e = .returned v ∧ OwnR L w' w.heap.size v (ts.takeWhile Y.isRef) ∧ Rd8 L B R px py w' (ts.dropWhile Y.isRef)

set_option maxHeartbeats 2000000 in
theorem refs8 (L : List Int) (B R px py : Nat) (ts : List Tok) (w : World) (hr : Rd8 L B R px py w ts) :
    Calls Tryz.prog 101 #[.pointer (some ⟨R, 0, none⟩)] w (Refs8 L B R px py ts w) := by
  have HR := hide hr
  have hRlt := hr.lt
  have hts : ts.length ≤ 4000 := by obtain ⟨_, _, _, _, h, _⟩ := hr; exact h
  clear hr
  go_enter Tryz.func101, Tryz.ntmps101
  go_wp2
  go_loopw [3] (fun v wr => ∃ (acc rest : List Tok), OwnR L wr w.heap.size v acc ∧ Rd8 L B R px py wr rest ∧ w.grownBy wr (some R) ∧ acc.length + rest.length = ts.length ∧ acc ++ rest.takeWhile Y.isRef = ts.takeWhile Y.isRef ∧ rest.dropWhile Y.isRef = ts.dropWhile Y.isRef) (fun v _ => 4001 - slLen v)
  case atStart => exact ⟨[], ts, OwnR.nil _ _ _, HR.out, World.grownBy.refl _ _, by simp, rfl, rfl⟩
  case round =>
    clear HR
    obtain ⟨acc, rest, ho, hr, hg, hlen, htk, hdp⟩ := hrel
    have HO := hide ho
    have HR := hide hr
    have HG := hide hg
    have HL := hide hlen
    have HTK := hide htk
    have HDP := hide hdp
    obtain ⟨A, c, rfl, hc1, hc2⟩ := ho.rd
    have HIS := hide (is8 L B R px py rest 1 2 wr hr)
    clear ho hr hg hlen htk hdp hc1 hc2
    rcases hb : Y.is [1, 2] rest with _ | _
    · rw [hb] at HIS
      have HB := hide hb
      clear hb
      go_wp2_with fail
      refine HIS.out.mono ?_; rintro _ w2 ⟨rfl, rfl⟩
      go_wp2
      go_ret
      obtain ⟨e1, e2⟩ := Y.refs_end HB.out
      rw [e1, List.append_nil] at HTK
      rw [e2] at HDP
      refine ⟨HG.out, _, rfl, ?_, ?_⟩
      · rw [← HTK.out]; exact HO.out
      · rw [← HDP.out]; exact HR.out
    · rw [hb] at HIS
      have HB := hide hb
      obtain ⟨t, r, rfl, htake, hk⟩ := Y.is_true hb
      have HRF := hide (take8 L B R px py t r 1 2 wr HR.out hb)
      have HK : Hid (Y.isRef t = true) := hide hk
      clear hb htake hk
      unfold refV at HRF
      go_wp2_with fail
      refine HIS.out.mono ?_; rintro _ w2 ⟨rfl, rfl⟩
      go_wp2_with fail
      refine HRF.out.mono ?_; rintro _ w3 ⟨rfl, hg3, hrd⟩
      have HG3 := hide hg3
      have HRD := hide hrd
      have HO3 := hide (HO.out.grown hg3 HR.out.other)
      clear hg3 hrd
      have HCE := hide (ref_cells L w3 t)
      have HS0 : Hid (w.heap.size ≤ w3.heap.size) := hide (by have h1 := HG.out.size; have h3 := HG3.out.size; omega)
      have HAC : Hid (acc.length ≤ 4000) := hide (by have := HL.out; simp at this; omega)
      go_wp2_with (at_builtin; refine apR_arm rfl (.tmp 6) (.tmp 9) _ rfl Tryz.underlying91 L w.heap.size _ acc rfl (HO3.out.alloc _) w3.heap.size 1 t rfl HCE.out (by have := HAC.out; omega) (by have := HS0.out; simp; omega) ?_; intro v4 w4 ho4 hg4)
      have HG4 := hide (grown_own (only_alloc (HG.out.trans HG3.out) _) (HO3.out.alloc _) hg4)
      have HRD4 := hide ((HRD.out.alloc _).own (HO3.out.alloc _) hg4 hRlt)
      have HO4 := hide ho4
      clear ho4 hg4
      go_roundw
      case rel =>
        refine ⟨acc ++ [t], r, HO4.out, HRD4.out, HG4.out, ?_, ?_, ?_⟩
        · have := HL.out; simp at this ⊢; omega
        · rw [← HTK.out, List.takeWhile_cons, HK.out]; simp
        · rw [← HDP.out, List.dropWhile_cons, HK.out]; rfl
      case measure =>
        obtain ⟨A4, c4, rfl, _, _⟩ := HO4.out.rd
        have := HAC.out
        simp [slLen]; omega
end Go.Proofs.YtfiijndmlmddbaaGreat

namespace Go.Proofs.YtfiijndmlmddbaaGreat
set_option maxRecDepth 100000
open Go.RowKit

namespace Y
theorem alts_len (left : Tok) : ∀ (f : Nat) (acc : List Prd) (ts : List Tok) (ps : List Prd) (r : List Tok), alts f left acc ts = .ok ps r → ps.length + r.length ≤ acc.length + ts.length
  | 0, acc, ts, ps, r, h => by injection h with h1 h2; subst h1 h2; exact Nat.le_refl _
  | f + 1, acc, ts, ps, r, h => by
    rw [alts] at h
    obtain ⟨p, m, h1, h2⟩ := bind_eq_ok h
    obtain ⟨t, m2, h3, h4⟩ := bind_eq_ok h2
    have e1 := rule_len h1
    have e2 := congrArg List.length (take_ok h3).1
    simp at e2
    split at h4
    · have := alts_len left f _ _ _ _ h4
      simp at this
      omega
    · injection h4 with h5 h6
      subst h5 h6
      simp
      omega
theorem group_len {acc ps : List Prd} {ts r : List Tok} (h : group acc ts = .ok ps r) : ps.length + r.length < acc.length + ts.length := by
  unfold group at h
  obtain ⟨t, m, h1, h2⟩ := bind_eq_ok h
  obtain ⟨u, m2, h3, h4⟩ := bind_eq_ok h2
  have e1 := congrArg List.length (take_ok h1).1
  have e2 := congrArg List.length (take_ok h3).1
  have e3 := alts_len _ _ _ _ _ _ h4
  simp at e1 e2
  omega
end Y

theorem own_ne {w : World} {base : Nat} {v : Value} {n size g : Nat} {e t : TypeId} {xs : List Value} {cs : Array Value} (h : w.ownsRow base e size v n xs) (hb : w.heap[g]? = some (.cells cs t (0, 0))) (he : e ≠ t) : v.ownBlock ≠ some g := by
  intro hk
  rcases h.2 with ⟨rfl, _⟩ | ⟨g', cap, cur', rfl, _, hg, _⟩
  · cases hk
  · injection hk with hk
    have hk' : g' = g := hk
    subst hk'
    rw [hg] at hb
    injection hb with e1
    injection e1 with _ e2
    exact he e2
theorem own_keep {w w' : World} {base : Nat} {v : Value} {n size g : Nat} {e t : TypeId} {xs : List Value} {cs : Array Value} (h : w.ownsRow base e size v n xs) (hb : w.heap[g]? = some (.cells cs t (0, 0))) (he : e ≠ t) (hg : w.grownBy w' v.ownBlock) : w'.heap[g]? = some (.cells cs t (0, 0)) :=
  (hg.block g (Array.getElem?_eq_some_iff.1 hb).1 (fun e' => own_ne h hb he e'.symm)).trans hb

/-- append of one declaration, met as one operation. -/
theorem apD_wp {w : World} {o : Oper} {a : Act} {K : Act → World → Prop} {Q : Exit → Act → World → Prop}
    (s x : Operand) (t : TypeId) (ho : o.op = .call { callee := .builtin .append, args := #[s, x], argTypes := #[t, t] }) (ht : Tryz.prog.underlying t = some (.slice 114))
    (L : List Int) (base : Nat) (v : Value) (ds : List Y.Dcl) (hs : a.eval s = v) (hown : OwnD L w base v ds) (g c : Nat) (d : Y.Dcl) (A : Option Addr) (dc : Nat) (hx : a.eval x = .slice (some ⟨g, 0, none⟩) 1 c) (hz : ∀ j u, (dcells d A dc)[j]? = some u → w.cell? ⟨g, j, none⟩ = some u) (hr : RdR L w base A d.ns)
    (hlen : ds.length ≤ 1000000) (hbase : base ≤ w.heap.size)
    (hK : ∀ v' w', OwnD L w' base v' (ds ++ [d]) → w.grownBy w' v.ownBlock → K (a.put o.dst v') w') :
    o.wp Tryz.prog a w K Q := by
  obtain ⟨i, hi, hz0, hz1, hz2⟩ := info_parts infoD
  obtain ⟨qs, hq1, hq2, hq3⟩ := hown
  refine wp_append_own w s x t ho base 114 i _ 2 32 ht hi hz0 hz1 hz2 rfl (by decide) v ds.length (dall qs) hs hq2 ⟨g, 0, none⟩ 1 c (dcells d A dc) hx rfl ?_ (fun u hu => by simp [dcells] at hu; rcases hu with rfl | rfl <;> rfl) (by unfold maxLen; omega) (by omega) hbase fun v' w' h1 h2 _ => hK v' w' ?_ h2
  · intro j u hj
    rw [addZ, Nat.zero_add]
    exact hz j u hj
  · have ho := own_other hq2 (by decide)
    refine ⟨qs ++ [(d, A, dc)], by rw [List.map_append, hq1]; rfl, ?_, fun q hq => ?_⟩
    · rw [List.length_append]
      unfold dall
      rw [List.flatMap_append, List.flatMap_singleton]
      exact h1
    · rcases List.mem_append.1 hq with h | h
      · exact (hq3 q h).grown h2 ho
      · rw [List.mem_singleton] at h
        subst h
        exact hr.grown h2 ho

theorem OwnP.less {L : List Int} {w : World} {base base' : Nat} {v : Value} {ps : List Y.Prd} (h : OwnP L w base v ps) (hb : base' ≤ base) : OwnP L w base' v ps := by
  obtain ⟨qs, h1, h2, h3⟩ := h
  refine ⟨qs, h1, ⟨h2.1, ?_⟩, fun q hq => (h3 q hq).less hb⟩
  rcases h2.2 with h0 | ⟨g, cap, cur, e, hb1, hr⟩
  · exact .inl h0
  · exact .inr ⟨g, cap, cur, e, by omega, hr⟩
def declLen (n : Nat) (w : World) : Nat := match w.cell? ⟨n, 0, none⟩ with | some (.slice _ k _) => k | _ => 0
end Go.Proofs.YtfiijndmlmddbaaGreat

namespace Go.Proofs.YtfiijndmlmddbaaGreat
set_option maxRecDepth 100000
open Go.RowKit

theorem OwnD.less {L : List Int} {w : World} {base base' : Nat} {v : Value} {ds : List Y.Dcl} (h : OwnD L w base v ds) (hb : base' ≤ base) : OwnD L w base' v ds := by
  obtain ⟨qs, h1, h2, h3⟩ := h
  refine ⟨qs, h1, ⟨h2.1, ?_⟩, fun q hq => (h3 q hq).less hb⟩
  rcases h2.2 with h0 | ⟨g, cap, cur, e, hb1, hr⟩
  · exact .inl h0
  · exact .inr ⟨g, cap, cur, e, by omega, hr⟩
theorem below_far {B g i : Nat} {a w : World} (h : Below B a w) (u : Value) (hg : B ≤ g) : Below B a (w.setCell ⟨g, i, none⟩ u) :=
  ⟨h.os, h.tape, h.output, by simpa [World.setCell] using h.size, fun k hk => (Below.heap_setCell w ⟨g, i, none⟩ u k (by simp only; omega)).trans (h.block k hk)⟩
end Go.Proofs.YtfiijndmlmddbaaGreat

namespace Go.Proofs.YtfiijndmlmddbaaGreat
set_option maxRecDepth 100000

/-- A token stands in the text, and is a name, or a literal, just if its kind says so. -/
structure Stands (L : List Int) (x : Tok) : Prop where
  o : x.o < L.length
  len : x.t.length ≤ L.length - x.o
  text : (L.drop x.o).take x.t.length = x.t
  name : (x.k == 1) = T.isName x.t
  lit : (x.k == 2) = T.isLit x.t
  bytes : K.Bytes x.t

theorem stands_new (L : List Int) (hL : K.Bytes L) (k : Nat) (hk : k < L.length) (x : T.P3) (hf : T.Fine (L.drop k) x) (he : x.2.2 = 0) : Stands L ⟨x.1, ttext x.1 ((L.drop k).take x.2.1), k⟩ := by
  obtain ⟨xk, xn, xe⟩ := x
  obtain ⟨h1, _, _, _, _, _⟩ := hf
  obtain ⟨h2, h3, h4, h5⟩ := h1 he
  simp only at h2 h3 h4 h5
  rw [List.length_drop] at h3
  have hlen : ((L.drop k).take xn).length = xn := by rw [List.length_take, List.length_drop]; omega
  by_cases hk1 : xk = 1
  · subst hk1
    have hn := h4 rfl
    have e : ttext 1 ((L.drop k).take xn) = (L.drop k).take xn := by simp [ttext]
    refine ⟨hk, ?_, ?_, ?_, ?_, ?_⟩
    · simp only; rw [e, hlen]; exact h3
    · simp only; rw [e, hlen]
    · simp only; rw [e, hn]; rfl
    · simp only; rw [e, T.name_lit _ hn]; rfl
    · simp only; rw [e]; exact (hL.drop k).take xn
  · by_cases hk2 : xk = 2
    · subst hk2
      have hn := h5 rfl
      have e : ttext 2 ((L.drop k).take xn) = (L.drop k).take xn := by simp [ttext]
      have hnn : T.isName ((L.drop k).take xn) = false := by
        rcases hq : T.isName ((L.drop k).take xn) with _ | _
        · rfl
        · have := T.name_lit _ hq; rw [hn] at this; cases this
      refine ⟨hk, ?_, ?_, ?_, ?_, ?_⟩
      · simp only; rw [e, hlen]; exact h3
      · simp only; rw [e, hlen]
      · simp only; rw [e, hnn]; rfl
      · simp only; rw [e, hn]; rfl
      · simp only; rw [e]; exact (hL.drop k).take xn
    · have e : ttext xk ((L.drop k).take xn) = [] := by unfold ttext; rw [if_neg (by omega)]
      refine ⟨hk, ?_, ?_, ?_, ?_, ?_⟩
      · simp only; rw [e]; simp
      · simp only; rw [e]; simp
      · simp only; rw [e, beq_eq_false_iff_ne.2 hk1]; rfl
      · simp only; rw [e, beq_eq_false_iff_ne.2 hk2]; rfl
      · simp only; rw [e]; exact K.Bytes.nil

/-- Tokens up to a place: each stands, ahead of it; they rise. -/
def Rise (L : List Int) (k : Nat) (xs : List Tok) : Prop := (∀ x ∈ xs, Stands L x ∧ x.o < k) ∧ xs.Pairwise (fun a b => a.o < b.o)

theorem scan_rise (L : List Int) (hL : K.Bytes L) : ∀ (f k m : Nat) (acc xs : List Tok), k ≤ L.length → Rise L k acc → scan f (L.drop k) k m acc = .ok xs → Rise L L.length xs
  | 0, k, m, acc, xs, hk, hr, h => by
    injection h with h
    subst h
    exact ⟨fun x hx => ⟨(hr.1 x hx).1, (hr.1 x hx).1.o⟩, hr.2⟩
  | f + 1, k, m, acc, xs, hk, hr, h => by
    by_cases he : (L.drop k).length = 0 ∨ m = 2
    · rw [scan_end _ _ _ _ _ he] at h
      injection h with h
      subst h
      exact ⟨fun x hx => ⟨(hr.1 x hx).1, (hr.1 x hx).1.o⟩, hr.2⟩
    · have hlt : k < L.length := by rw [List.length_drop] at he; omega
      have hf := T.piece_fine (L.drop k) (by rw [List.length_drop]; omega) (hL.drop k)
      by_cases hb : (T.piece (L.drop k)).2.2 = 0
      · rw [scan_on _ _ _ _ _ he hb] at h
        obtain ⟨hn1, hn2, _, _⟩ := hf.1 hb
        rw [List.length_drop] at hn2
        rw [List.drop_drop] at h
        refine scan_rise L hL f _ _ _ xs (by omega) ?_ h
        unfold more
        split
        · exact ⟨fun x hx => ⟨(hr.1 x hx).1, by have := (hr.1 x hx).2; omega⟩, hr.2⟩
        · refine ⟨fun x hx => ?_, ?_⟩
          · rcases List.mem_append.1 hx with h1 | h1
            · exact ⟨(hr.1 x h1).1, by have := (hr.1 x h1).2; omega⟩
            · rw [List.mem_singleton] at h1
              subst h1
              exact ⟨stands_new L hL k hlt _ hf hb, by simp only; omega⟩
          · rw [List.pairwise_append]
            refine ⟨hr.2, List.pairwise_singleton _ _, fun a ha b hb' => ?_⟩
            rw [List.mem_singleton] at hb'
            subst hb'
            exact (hr.1 a ha).2
      · rw [scan_bad _ _ _ _ _ he hb] at h
        cases h

theorem toks_rise (L : List Int) (hL : K.Bytes L) (xs : List Tok) (h : toks L = .ok xs) : Rise L L.length xs :=
  scan_rise L hL _ 0 0 [] xs (Nat.zero_le _) ⟨fun x hx => by simp at hx, List.Pairwise.nil⟩ (by simpa [toks] using h)
theorem Rise.lt {L : List Int} {k : Nat} {xs : List Tok} (h : Rise L k xs) (i j : Nat) (hij : i < j) (hj : j < xs.length) : xs[i].o < xs[j].o :=
  List.pairwise_iff_getElem.1 h.2 i j (by omega) hj hij
theorem Rise.at {L : List Int} {k : Nat} {xs : List Tok} (h : Rise L k xs) (i : Nat) (hi : i < xs.length) : Stands L xs[i] := (h.1 _ (List.getElem_mem hi)).1
theorem Rise.ge {L : List Int} {k : Nat} {xs : List Tok} (h : Rise L k xs) : ∀ (i : Nat) (hi : i < xs.length), i ≤ xs[i].o
  | 0, _ => Nat.zero_le _
  | i + 1, hi => by
    have h1 := h.ge i (by omega)
    have h2 := h.lt i (i + 1) (by omega) hi
    omega
theorem Rise.count {L : List Int} {k : Nat} {xs : List Tok} (h : Rise L k xs) : xs.length ≤ L.length := by
  rcases Nat.eq_zero_or_pos xs.length with h0 | h0
  · omega
  · have h1 := h.ge (xs.length - 1) (by omega)
    have h2 := (h.at (xs.length - 1) (by omega)).o
    omega
end Go.Proofs.YtfiijndmlmddbaaGreat
