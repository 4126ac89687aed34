/- Contract of the document's Quo over this program: bit by bit it answers what nat's does. -/
import Derived.Test.YthnfdbgejmkaaaaDoorRefQuo
import Derived.Test.YthnfdbgejmkaaaaDoorQuo
namespace Go.Proofs.YthnfdbgejmkaaaaDoor
open Go.RowKit

theorem bit_step {v u Q R j : Nat} (h : Q * u + R = v / 2 ^ (j + 1)) : 2 * Q * u + (2 * R + v / 2 ^ j % 2) = v / 2 ^ j := by
  have e : v / 2 ^ (j + 1) = v / 2 ^ j / 2 := by rw [Nat.pow_succ, Nat.div_div_eq_div_mul]
  rw [e] at h
  have h2 : 2 * Q * u = 2 * (Q * u) := by rw [Nat.mul_assoc]
  omega
theorem limb_bit (v j : Nat) : ((M.canon v).getD (j / 32) 0 / (2 : Int) ^ (j % 32)) % 2 = ((v / 2 ^ j % 2 : Nat) : Int) := by
  rw [M.canon_getD, ← bit_of v j]
  unfold M.pw
  rw [Int.natCast_emod, Int.natCast_ediv, Int.natCast_emod, Int.natCast_ediv, Int.natCast_pow, Int.natCast_pow]
  rfl
theorem canon_one : M.canon 1 = [1] := by rw [M.canon_pos (by omega), show 1 / 4294967296 = 0 by omega, M.canon_zero]; rfl
theorem canon_lt33 {n u : Nat} (h : n < 2 * u) (hu : (M.canon u).length ≤ 32) : (M.canon n).length ≤ 33 := M.canon_length_le.2 (by
  have h1 := (M.canon_length_le (n := u) (k := 32)).1 hu
  have h2 : M.pw 33 = 4294967296 * M.pw 32 := M.pw_succ 32
  have := M.pw_pos 32
  omega)
theorem double_step {rs ds : List Int} {k : Nat} {c s x lo : Int} (h : k < ds.length) (hv : M.val (ds.take k) + M.pw k * c = M.val (rs.take k) * 2 + lo) (hx : rs.getD k 0 = x) (hs : s = 2 * x + c) :
    M.val ((ds.set k (s % 4294967296)).take (k + 1)) + M.pw (k + 1) * (s / 4294967296) = M.val (rs.take (k + 1)) * 2 + lo := scale_step h hv hx (by omega)

set_option maxHeartbeats 4000000 in
set_option maxRecDepth 100000 in
theorem rquo_main (A A' : Option Addr) (ca cb v u : Nat) (w : World) (hra : Rd w w.heap.size A (M.canon v)) (hrb : Rd w w.heap.size A' (M.canon u))
    (hv : (M.canon v).length ≤ 32) (hu : (M.canon u).length ≤ 32) (hu0 : u ≠ 0) :
    Calls Tryd.prog 35 #[.slice A (M.canon v).length ca, .slice A' (M.canon u).length cb] w (RetQ (M.canon (v / u), M.canon (v % u), 0) w) := by
  have C1 := rright_any A ca w.heap.size (M.canon v) w hra (by omega)
  have C2 := rright_any A' cb w.heap.size (M.canon u) w hrb (by omega)
  rw [right_canon hv] at C1
  rw [right_canon hu] at C2
  have D1 := hide C1
  have D2 := hide C2
  have hz : (((M.canon u).length : Int) == 0) = false := by
    rw [beq_eq_false_iff_ne]; intro e
    exact hu0 (M.canon_eq_nil.1 (List.eq_nil_of_length_eq_zero (by omega)))
  have hlimu := M.lim_canon u
  have hvalu := M.val_canon u
  have hvlen := (M.canon_length_le (n := v) (k := (M.canon v).length)).1 (Nat.le_refl _)
  generalize hul : M.canon u = ul at *
  generalize hvl : M.canon v = vl at *
  have HUL := hide hul
  have HVL := hide hvl
  have HRA := hide hra
  have HRB := hide hrb
  have HLU := hide hlimu
  have HVU := hide hvalu
  have hvbits : v < 2 ^ (32 * vl.length) := by
    have h1 := hvlen
    unfold M.pw at h1
    rw [Nat.pow_mul]
    have : ((4294967296 ^ vl.length : Nat) : Int) = (4294967296 : Int) ^ vl.length := by rw [Int.natCast_pow]; rfl
    have e : (2 ^ 32 : Nat) = 4294967296 := rfl
    rw [e]; omega
  have HVB := hide hvbits
  clear C1 C2 hra hrb hlimu hvalu hul hvl hvbits hvlen
  go_enter Tryd.func35, Tryd.ntmps35
  go_wp2_with fail
  refine D1.out.mono ?_; rintro e w' ⟨rfl, rfl⟩
  go_wp2_with fail
  refine D2.out.mono ?_; rintro e w' ⟨rfl, rfl⟩
  go_wp2_with fail
  go_loopw [7, 8, 9] (fun vq vr vi wr => ∃ (i : Int) (k Q R : Nat) (A1 A2 : Option Addr) (n1 c1 n2 c2 : Nat), -1 ≤ i ∧ i + 1 = k ∧ k ≤ 32 * vl.length ∧ vi = .int .i64 i ∧ vq = .slice A1 n1 c1 ∧ vr = .slice A2 n2 c2 ∧ n1 = (M.canon Q).length ∧ n2 = (M.canon R).length ∧ n1 ≤ c1 ∧ c1 ≤ 9223372036854775807 ∧ n2 ≤ c2 ∧ c2 ≤ 9223372036854775807 ∧
    Rd wr wr.heap.size A1 (M.canon Q) ∧ Rd wr wr.heap.size A2 (M.canon R) ∧ Q * u + R = v / 2 ^ k ∧ R < u ∧ Below w.heap.size w wr) (fun _ _ vi _ => (intOf vi + 1).toNat)
  case atStart => exact ⟨32 * (vl.length : Int) - 1, 32 * vl.length, 0, 0, none, none, 0, 0, 0, 0, by omega, by omega, Nat.le_refl _, rfl, rfl, rfl, by rw [M.canon_zero]; rfl, by rw [M.canon_zero]; rfl, Nat.le_refl _, by omega, Nat.le_refl _, by omega, by rw [M.canon_zero]; exact Rd.nil _ _ _, by rw [M.canon_zero]; exact Rd.nil _ _ _, by rw [Nat.div_eq_of_lt HVB.out]; omega, by omega, Below.refl _ _⟩
  case round =>
    obtain ⟨i, k, Q, R, A1, A2, n1, c1, n2, c2, hi, hik, hk, rfl, rfl, rfl, hn1, hn2, e1, e2, e3, e4, hq, hr, hdiv, hRu, hbl⟩ := hrel
    have HN1 := hide hn1
    have HN2 := hide hn2
    have HQ := hide hq
    have HR := hide hr
    clear hn1 hn2 hq hr
    by_cases hlt : 0 ≤ i
    · obtain ⟨j, rfl⟩ := Int.eq_ofNat_of_zero_le hlt
      obtain rfl : k = j + 1 := by omega
      have hbs := bit_step hdiv
      have hbit : v / 2 ^ j % 2 < 2 := Nat.mod_lt _ (by omega)
      have hjv : v / 2 ^ j ≤ v := Nat.div_le_self _ _
      have hlb := limb_bit v j
      obtain ⟨ga, oa, rfl, hga, ha⟩ := ((HRA.out).below hbl (Nat.le_refl _)) (by omega)
      have hca' := ha (j / 32) (by omega)
      rw [← HVL.out] at hca'
      have bl := (M.lim_canon v).getD (j / 32)
      generalize hL : (M.canon v).getD (j / 32) 0 = L at *
      generalize hbb : v / 2 ^ j % 2 = bit at *
      have hj0 : (0 : Int) ≤ (j : Int) / 32 := by omega
      have hj1 : (j : Int) / 32 < (vl.length : Int) := by omega
      have hbt : (L / (2 : Int) ^ (j % 32)).tmod 2 = (bit : Int) := by
        rw [Int.tmod_eq_emod_of_nonneg (Int.ediv_nonneg bl.1 (by have : (0 : Int) < 2 ^ (j % 32) := Int.pow_pos (by omega); omega))]; exact hlb
      have HBS := hide hbs
      have HLB := hide hlb
      have HBL2 := hide hbl
      have HDV := hide hdiv
      have hjl : (j : Int) < 32 * (vl.length : Int) := by omega
      have HJV := hide hjv
      clear hbs hL hbb hlb ha hdiv hik hjv
      have hfq : (M.canon (2 * Q)).length ≤ 32 := by
        have h1 : 2 * Q ≤ 2 * Q * u := Nat.le_mul_of_pos_right _ (by omega)
        have := canon_len_mono (show 2 * Q ≤ v by have t1 := HBS.out; have t2 := HJV.out; generalize v / 2 ^ j = vj at t1 t2; generalize 2 * Q * u = z at *; omega); rw [HVL.out] at this; omega
      have hfq1 : v / 2 ^ j ≤ v := HJV.out
      have hqlen : (M.canon Q).length ≤ 32 := by have := canon_len_mono (show Q ≤ 2 * Q by omega); omega
      have hrlen : (M.canon R).length ≤ 32 := by have := canon_len_mono (show R ≤ u by omega); rw [HUL.out] at this; omega
      have hadd : addS (M.canon Q) (M.canon Q) = (M.canon (2 * Q), 0) := by rw [addS_canon hqlen hqlen, show Q + Q = 2 * Q by omega, fitL_ok hfq]
      have hd33 : (M.canon (2 * R + bit)).length ≤ 33 := canon_lt33 (u := u) (by omega) (by rw [HUL.out]; exact hu)
      have hcases : (2 * R + bit < u) ∨ (u ≤ 2 * R + bit ∧ addS (M.canon (2 * Q)) [1] = (M.canon (2 * Q + 1), 0)) := by
        rcases Nat.lt_or_ge (2 * R + bit) u with h | h
        · exact .inl h
        · right
          refine ⟨h, ?_⟩
          have h0 : (2 * Q + 1) * u ≤ v := by
            have t1 := HBS.out
            have t2 := HJV.out
            rw [Nat.add_mul, Nat.one_mul]
            generalize v / 2 ^ j = vj at t1 t2
            generalize 2 * Q * u = z at *
            omega
          have h1 : 2 * Q + 1 ≤ (2 * Q + 1) * u := Nat.le_mul_of_pos_right _ (by omega)
          have h2 := canon_len_mono (show 2 * Q + 1 ≤ v by omega)
          rw [HVL.out] at h2
          rw [← canon_one, addS_canon hfq (small64 (by omega)), fitL_ok (by omega)]
      have hlq := M.lim_canon Q
      have hlr := M.lim_canon R
      have hvr := M.val_canon R
      have hl2q := M.lim_canon (2 * Q)
      generalize hrl : M.canon R = rl at *
      generalize hql : M.canon Q = ql at *
      have HRU := hide hRu
      have HADD := hide hadd
      have HVR := hide hvr
      have HHC := hide hcases
      clear hfq1 hadd hvr hrl hql hcases hRu
      go_wp2_with (at_make; refine mk_arm rfl _ _ _ rfl Tryd.underlying23 33 33 33 rfl rfl rfl rfl (by omega) ?_; intro w3 hu3 hb3 hs3)
      clear hbt
      go_wp2_with fail
      have g3 : wr.heap.size < w3.heap.size := hs3
      generalize hgg : wr.heap.size = g at *
      obtain ⟨wo, hwo⟩ : ∃ wo : World, wo = wr := ⟨_, rfl⟩
      subst hwo
      go_loopw [12, 13] (fun vc vk w4 => ∃ (k : Nat) (c : Int) (ds : List Int), k ≤ 33 ∧ vk = .int .i64 k ∧ vc = .int .u64 c ∧ 0 ≤ c ∧ c ≤ 1 ∧ ds.length = 33 ∧ M.Lim ds ∧ M.val (ds.take k) + M.pw k * c = M.val (rl.take k) * 2 + (bit : Int) ∧ UB w4 g ds ∧ Below g wo w4) (fun _ vk _ => 33 - (intOf vk).toNat)
      case atStart => exact ⟨0, (bit : Int), _, by omega, rfl, rfl, by omega, by omega, by simp, M.Lim.replicate _, by simp [M.val, M.pw_zero], hu3, hb3⟩
      case round =>
        obtain ⟨w4, h4⟩ : ∃ w4 : World, w4 = wr := ⟨_, rfl⟩
        subst h4
        obtain ⟨k, c, ds, hk33, rfl, rfl, c0, c1', hdl, hdlim, hdv, hud, hbd⟩ := hrel
        have HDL := hide hdl
        have HDVV := hide hdv
        by_cases hkt : k < 33
        · have hr4 : Rd w4 w4.heap.size A2 rl := ((HR.out).below hbd (by omega)).more (by have := hbd.size; omega)
          have LM := hide (by
            have q := limb_any A2 c2 k w4.heap.size rl w4 hr4 hlr (by omega) (by omega)
            rw [← HN2.out] at q
            exact q)
          have hpc := hud.cell k (by omega)
          have hpf := hud.frozen k
          have bx := hlr.getD k
          have hrel' : ∀ s wz, s = 2 * rl.getD k 0 + c → wz = w4.setCell ⟨g, k, none⟩ (.int .u32 (s % 4294967296)) → ∃ (k' : Nat) (c' : Int) (ds' : List Int), k' ≤ 33 ∧ Value.int .i64 ((k : Int) + 1) = .int .i64 k' ∧ Value.int .u64 (s / 4294967296) = .int .u64 c' ∧ 0 ≤ c' ∧ c' ≤ 1 ∧ ds'.length = 33 ∧ M.Lim ds' ∧ M.val (ds'.take k') + M.pw k' * c' = M.val (rl.take k') * 2 + (bit : Int) ∧ UB wz g ds' ∧ Below g wo wz := by
            rintro s wz hs rfl
            exact ⟨k + 1, s / 4294967296, ds.set k (s % 4294967296), hkt, by go_num, rfl, by omega, by omega, by rw [List.length_set]; exact hdl, hdlim.set _ (by omega) (by omega), double_step (by omega) hdv rfl hs, hud.set_ _ _, hbd.setCell (Nat.le_refl _) _⟩
          generalize rl.getD k 0 = x at *
          have HREL := hide hrel'
          clear hrel' hdl hdv hud hr4
          go_wp2_with fail
          refine LM.out.mono ?_
          rintro e w' ⟨rfl, rfl⟩
          go_wp2
          go_roundw
          case rel => exact HREL.out _ _ rfl rfl
          case measure => simp [intOf]; omega
        · obtain rfl : k = 33 := by omega
          rw [List.take_of_length_le (by omega), List.take_of_length_le (by omega), HVR.out] at hdv
          have hv2 : M.val ds = ((2 * R + bit : Nat) : Int) := by
            have a1 := M.val_nonneg hdlim
            have a2 := (M.canon_length_le (n := 2 * R + bit) (k := 33)).1 hd33
            have a3 := M.pw_pos 33
            rcases (by omega : c = 0 ∨ c = 1) with h | h
            · subst h; omega
            · subst h; omega
          have hbw4 : Below w.heap.size w w4 := HBL2.out.trans (hbd.mono (by have := HBL2.out.size; omega))
          have N := neat_any (some ⟨g, 0, none⟩) 33 w4.heap.size ds w4 (hud.rd0 hud.lt) (by omega) (by omega)
          have hle := M.trim_length_le ds
          have hrD : Rd w4 w4.heap.size (some ⟨g, 0, none⟩) (M.trim ds) := by rw [M.trim_prefix]; exact (hud.rd0 hud.lt).take _
          rw [hdl, M.trim_eq_canon hdlim, hv2, Int.toNat_natCast] at N
          rw [M.trim_eq_canon hdlim, hv2, Int.toNat_natCast, hdl] at hle
          rw [M.trim_eq_canon hdlim, hv2, Int.toNat_natCast] at hrD
          have hq4 : Rd w4 w4.heap.size A1 ql := ((HQ.out).below hbd (by omega)).more (by have := hbd.size; omega)
          have hb4 : Rd w4 w4.heap.size A' ul := HRB.out.on hbw4
          have ADQ := by
            have q := radd_any A1 A1 c1 c1 w4.heap.size ql ql w4 hq4 hq4 hlq hlq (by have := HN1.out; omega) (by have := HN1.out; omega) e2 e2 (Nat.le_refl _)
            rw [HADD.out, ← HN1.out] at q
            exact q
          have hlD := M.lim_canon (2 * R + bit)
          have hvD := M.val_canon (2 * R + bit)
          have BLW := hide (fun (W : World) (h1 : Rd W W.heap.size (some ⟨g, 0, none⟩) (M.canon (2 * R + bit))) (h2 : Rd W W.heap.size A' ul) => by
            have q := below_any (some ⟨g, 0, none⟩) A' 33 cb W.heap.size (M.canon (2 * R + bit)) ul W h1 h2 hlD HLU.out hd33 (by omega)
            rw [hvD, HVU.out] at q
            exact q)
          have HN := hide N
          have HAQ := hide ADQ
          have HRD := hide hrD
          have HB4 := hide hb4
          clear N ADQ hrD hq4 hb4 hdv hdl hud hv2
          go_wp2_with fail
          refine HN.out.mono ?_
          rintro e w' ⟨rfl, rfl⟩
          go_wp2_with fail
          refine HAQ.out.mono ?_
          rintro e w5 ⟨A5, c5, rfl, q1, q2, q3, b5⟩
          have e5 := hbw4.trans (b5.mono hbw4.size)
          rcases HHC.out with hc | ⟨hc, hadd1⟩
          · have hdec : decide (((2 * R + bit : Nat) : Int) < (u : Int)) = true := by rw [decide_eq_true_iff]; omega
            rw [hdec] at BLW
            have hnew : 2 * Q * u + (2 * R + bit) = v / 2 ^ j := HBS.out
            have HNW := hide hnew
            have HRR := hide (HRD.out.on b5)
            generalize hDD : M.canon (2 * R + bit) = D at *
            generalize hQQ : M.canon (2 * Q) = Q2 at *
            have HDL2 := hide hDD
            have HQQ2 := hide hQQ
            clear hnew hdec hlD hvD hDD hQQ
            go_wp2_with fail
            refine (BLW.out w5 (HRD.out.on b5) (HB4.out.on b5)).mono ?_
            rintro e w' ⟨rfl, rfl⟩
            go_wp2
            go_roundw
            case rel => exact ⟨(j : Int) - 1, j, 2 * Q, 2 * R + bit, A5, _, _, c5, _, 33, by omega, by omega, by omega, rfl, rfl, rfl, by rw [HQQ2.out], by rw [HDL2.out], q1, q2, hle, by omega, by rw [HQQ2.out]; exact q3, by rw [HDL2.out]; exact HRR.out, HNW.out, hc, e5⟩
            case measure => simp [intOf]
          · have hdec : decide (((2 * R + bit : Nat) : Int) < (u : Int)) = false := by rw [decide_eq_false_iff_not]; omega
            rw [hdec] at BLW
            have hnew : (2 * Q + 1) * u + (2 * R + bit - u) = v / 2 ^ j := by
              have t1 := HBS.out
              rw [Nat.add_mul, Nat.one_mul]
              generalize v / 2 ^ j = vj at *
              generalize 2 * Q * u = z at *
              omega
            have hru : 2 * R + bit - u < u := by have := HRU.out; omega
            have HNW := hide hnew
            have HRR := hide (HRD.out.on b5)
            have LS := hide (fun (W : World) (h1 : Rd W W.heap.size (some ⟨g, 0, none⟩) (M.canon (2 * R + bit))) (h2 : Rd W W.heap.size A' ul) => by
              have q := less_any (some ⟨g, 0, none⟩) A' 33 cb W.heap.size (M.canon (2 * R + bit)) ul W h1 h2 hlD HLU.out hd33 (by omega) (Nat.le_refl _) (by rw [hvD, HVU.out]; omega)
              rw [hvD, HVU.out, show ((2 * R + bit : Nat) : Int) - (u : Int) = ((2 * R + bit - u : Nat) : Int) by omega, Int.toNat_natCast] at q
              exact q)
            have AD1 := hide (fun (W : World) (Aq : Option Addr) (cq : Nat) (Ao : Option Addr) (co : Nat) (h1 : Rd W W.heap.size Aq (M.canon (2 * Q))) (h2 : Rd W W.heap.size Ao [1]) (k1 : (M.canon (2 * Q)).length ≤ cq) (k2 : cq ≤ 9223372036854775807) (k3 : 1 ≤ co) (k4 : co ≤ 9223372036854775807) => by
              have q := radd_any Aq Ao cq co W.heap.size (M.canon (2 * Q)) [1] W h1 h2 hl2q (M.Lim.cons (by omega) (by omega) M.Lim.nil) k1 k3 k2 k4 (Nat.le_refl _)
              rw [hadd1] at q
              exact q)
            generalize M.canon (2 * R + bit) = D at *
            generalize M.canon (2 * Q) = Q2 at *
            generalize hq21 : M.canon (2 * Q + 1) = Q21 at *
            generalize hrn : M.canon (2 * R + bit - u) = RN at *
            have HQ21 := hide hq21
            have HRN := hide hrn
            clear hnew hdec hlD hvD hadd1 hq21 hrn
            go_wp2_with fail
            refine (BLW.out w5 (HRD.out.on b5) (HB4.out.on b5)).mono ?_
            rintro e w' ⟨rfl, rfl⟩
            go_wp2_with fail
            refine (LS.out w5 HRR.out (HB4.out.on b5)).mono ?_
            rintro e w6 ⟨A6, c6, rfl, r1, r2, r3, b6⟩
            have e6 := e5.trans (b6.mono e5.size)
            have hu7 := UB.new w6 [1]
            have hb7 : Below w6.heap.size w6 (w6.alloc (.cells (([1] : List Int).map (Value.int .u32)).toArray 33)) := (Below.refl _ _).alloc (Nat.le_refl _) _
            have AD2 := hide (AD1.out _ A5 c5 (some ⟨w6.heap.size, 0, none⟩) 1 ((q3.on b6).on hb7) (hu7.rd0 hu7.lt) q1 q2 (Nat.le_refl _) (by omega))
            go_wp2_with fail
            refine AD2.out.mono ?_
            rintro e w8 ⟨A8, c8, rfl, s1, s2, s3, b8⟩
            have e7 := e6.trans (hb7.mono e6.size)
            have e8 := e7.trans (b8.mono e7.size)
            have hr8 := (r3.on hb7).on b8
            have HE8 := hide e8
            have HR8 := hide hr8
            clear e7 e8 hr8 hu7 hb7
            go_wp2
            go_roundw
            case rel => exact ⟨(j : Int) - 1, j, 2 * Q + 1, 2 * R + bit - u, A8, A6, _, c8, _, c6, by omega, by omega, by omega, rfl, rfl, rfl, by rw [HQ21.out], by rw [HRN.out], s1, s2, r1, r2, by rw [HQ21.out]; exact s3, by rw [HRN.out]; exact HR8.out, HNW.out, hru, HE8.out⟩
            case measure => simp [intOf]
    · obtain rfl : i = -1 := by omega
      obtain rfl : k = 0 := by omega
      have hdv : Q * u + R = v := by simpa using hdiv
      have hQ : Q = v / u := by
        have h1 := Nat.div_add_mod v u
        rw [← hdv, Nat.add_comm, Nat.add_mul_div_right _ _ (by omega), Nat.div_eq_of_lt hRu]; omega
      have hR : R = v % u := by
        rw [← hdv, Nat.add_comm, Nat.add_mul_mod_self_right, Nat.mod_eq_of_lt hRu]
      have HQE := hide hQ
      have HRE := hide hR
      clear hdiv hdv hQ hR hik
      go_wp2
      go_ret3
      rw [← HQE.out, ← HRE.out]
      rw [HN1.out, HN2.out]
      exact ⟨A1, c1, A2, c2, rfl, by rw [← HN1.out]; exact e1, e2, by rw [← HN2.out]; exact e3, e4, HQ.out, HR.out, hbl⟩
end Go.Proofs.YthnfdbgejmkaaaaDoor
