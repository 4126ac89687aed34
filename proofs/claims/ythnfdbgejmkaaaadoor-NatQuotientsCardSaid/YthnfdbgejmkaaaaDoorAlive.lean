/- The statements' fixed fact over this program: it answers true, whatever the memory. -/
import Derived.Test.YthnfdbgejmkaaaaDoorRefText
import Derived.Test.YthnfdbgejmkaaaaDoorMul
import Derived.Test.YthnfdbgejmkaaaaDoorSub
namespace Go.Proofs.YthnfdbgejmkaaaaDoor
open Go.RowKit

def aX : List Int := M.canon 4294967296
def aY : List Int := M.canon 12884901888
def aZ : List Int := M.canon 12884901887
def aQ : List Int := M.canon 1288490188
def a1 : List Int := M.canon 1
def a3 : List Int := M.canon 3
theorem small64 {n : Nat} (h : n < 18446744073709551616) : (M.canon n).length ≤ 32 := M.canon_length_le.2 (by
  have h1 : M.pw 2 ≤ M.pw 32 := M.pw_mono (by omega)
  have h2 : M.pw 2 = 18446744073709551616 := by rw [M.pw_succ, M.pw_succ, M.pw_zero]; rfl
  omega)
theorem lX : aX.length ≤ 32 := small64 (by omega)
theorem lY : aY.length ≤ 32 := small64 (by omega)
theorem lZ : aZ.length ≤ 32 := small64 (by omega)
theorem lQ : aQ.length ≤ 32 := small64 (by omega)
theorem l1 : a1.length ≤ 32 := small64 (by omega)
theorem l3 : a3.length ≤ 32 := small64 (by omega)
theorem fitL_ok {n : Nat} (h : (M.canon n).length ≤ 32) : fitL n = (M.canon n, 0) := by unfold fitL; rw [if_pos h]
theorem subS_canon {m n : Nat} (hm : (M.canon m).length ≤ 32) (hn : (M.canon n).length ≤ 32) (h : n ≤ m) : subS (M.canon m) (M.canon n) = (M.canon (m - n), 0) := by
  unfold subS; rw [right_canon hm, right_canon hn, M.val_canon, M.val_canon, if_pos (by rfl), if_neg (by omega), show ((m : Int) - (n : Int)).toNat = m - n by omega]
theorem subS_less {m n : Nat} (hm : (M.canon m).length ≤ 32) (hn : (M.canon n).length ≤ 32) (h : m < n) : subS (M.canon m) (M.canon n) = ([], 11) := by
  unfold subS; rw [right_canon hm, right_canon hn, M.val_canon, M.val_canon, if_pos (by rfl), if_pos (by omega)]
theorem cmpS_canon {m n : Nat} (hm : (M.canon m).length ≤ 32) (hn : (M.canon n).length ≤ 32) : cmpS (M.canon m) (M.canon n) = cmpI m n := by
  unfold cmpS; rw [right_canon hm, right_canon hn, M.val_canon, M.val_canon]; rfl
theorem textS_canon {m : Nat} (hm : (M.canon m).length ≤ 32) : textS (M.canon m) = Lib.decDigits m := by
  unfold textS; rw [right_canon hm, M.val_canon, if_pos rfl]; rfl

theorem cX : aX = [0, 1] := by
  unfold aX; rw [M.canon_pos (by omega), M.canon_pos (by omega), show 4294967296 / 4294967296 / 4294967296 = 0 by omega, M.canon_zero]; rfl
theorem mulXY : mulS aX a3 = (aY, 0) := by unfold aX a3 aY; rw [mulS_canon (small64 (by omega)) (small64 (by omega)), show 4294967296 * 3 = 12884901888 by omega, fitL_ok (small64 (by omega))]
theorem subYZ : subS aY a1 = (aZ, 0) := by unfold aY a1 aZ; rw [subS_canon (small64 (by omega)) (small64 (by omega)) (by omega)]
theorem divZQ : divS aZ 10 = (aQ, 7, 0) := by
  have h := divS_canon (m := 12884901887) (d := 10) (small64 (by omega)) (by omega)
  rw [show 12884901887 / 10 = 1288490188 by omega, show 12884901887 % 10 = 7 by omega] at h
  exact h
def tZ : List UInt8 := [49, 50, 56, 56, 52, 57, 48, 49, 56, 56, 55]
def tQ : List UInt8 := [49, 50, 56, 56, 52, 57, 48, 49, 56, 56]
theorem parseZ : parseS tZ = (aZ, 0) := by
  have h1 : isDec tZ = true := by decide
  have h2 : numD tZ = 12884901887 := by decide
  unfold parseS; rw [if_pos h1, h2, fitL_ok (small64 (by omega))]; rfl
theorem parse01 : parseS [48, 49] = ([], 3) := by
  have h1 : isDec [48, 49] = false := by decide
  unfold parseS; rw [h1]; rfl
theorem sub1X : subS a1 aX = ([], 11) := subS_less (small64 (by omega)) (small64 (by omega)) (by omega)
theorem dig_one {q r n : Nat} (hn : n = q * 10 + r) (hq : 1 ≤ q) (hr : r < 10) : Lib.decDigits n = Lib.decDigits q ++ [UInt8.ofNat (48 + r)] := by rw [hn]; exact decDigits_step q r hq hr
theorem textQ : textS aQ = tQ := by
  unfold aQ
  rw [textS_canon (small64 (by omega)), dig_one (q := 128849018) (r := 8) (by omega) (by omega) (by omega), dig_one (n := 128849018) (q := 12884901) (r := 8) (by omega) (by omega) (by omega),
    dig_one (n := 12884901) (q := 1288490) (r := 1) (by omega) (by omega) (by omega), dig_one (n := 1288490) (q := 128849) (r := 0) (by omega) (by omega) (by omega), dig_one (n := 128849) (q := 12884) (r := 9) (by omega) (by omega) (by omega),
    dig_one (n := 12884) (q := 1288) (r := 4) (by omega) (by omega) (by omega), dig_one (n := 1288) (q := 128) (r := 8) (by omega) (by omega) (by omega), dig_one (n := 128) (q := 12) (r := 8) (by omega) (by omega) (by omega), dig_one (n := 12) (q := 1) (r := 2) (by omega) (by omega) (by omega), Lib.decDigits_one (by omega)]
  rfl
theorem textZ : textS aZ = tZ := by
  have hq := textQ
  unfold aQ at hq
  rw [textS_canon (small64 (by omega))] at hq
  unfold aZ
  rw [textS_canon (small64 (by omega)), dig_one (q := 1288490188) (r := 7) (by omega) (by omega) (by omega), hq]
  rfl
theorem cmpZZ : cmpS aZ aZ = 0 := by unfold aZ; rw [cmpS_canon (small64 (by omega)) (small64 (by omega))]; exact cmpI_eq
theorem cmpXY : cmpS aX aY = -1 := by unfold aX aY; rw [cmpS_canon (small64 (by omega)) (small64 (by omega))]; exact cmpI_lt (by omega)
theorem bitsX : bitsS aX = 33 := by
  rw [cX]; unfold bitsS
  have h : right [0, 1] = true := by decide
  rw [h]
  have hb : Lib.bitLen 1 = 1 := by decide
  simp [hb]
theorem limZ : M.Lim aZ := M.lim_canon _
theorem rightZ : right aZ = true := right_canon (small64 (by omega))

theorem Ret1.at {r : List Int} {w w' : World} {e : Ending} (h : Ret1 r w e w') : ∃ A c, e = .returned (.slice A r.length c) ∧ r.length ≤ c ∧ c ≤ 9223372036854775807 ∧ Rd w' w'.heap.size A r ∧ Below w.heap.size w w' := h
theorem Rd.on {w w' : World} {A : Option Addr} {zs : List Int} (h : Rd w w.heap.size A zs) (hb : Below w.heap.size w w') : Rd w' w'.heap.size A zs := (h.below hb (Nat.le_refl _)).more hb.size

set_option maxHeartbeats 4000000 in
set_option maxRecDepth 100000 in
theorem alive_any (w : World) (htab : Tab w) : Calls Tryd.prog 11 #[] w fun e w' => e = .returned (.bool true) ∧ Below w.heap.size w w' := by
  have HT := hide htab
  clear htab
  have O1 := hide (fun W : World => nof_any 4294967296 W (by omega) (by omega))
  have O2 := hide (fun W : World => nof_any 3 W (by omega) (by omega))
  have O3 := hide (fun W : World => nof_any 1 W (by omega) (by omega))
  have LX := lX
  have LY := lY
  have LZ := lZ
  have LQ := lQ
  have L1 := l1
  have L3 := l3
  go_enter Tryd.func11, Tryd.ntmps11
  go_wp2_with fail
  refine (show Calls _ _ _ _ (Ret1 aX w) from O1.out w).mono ?_
  rintro e w1 ⟨Ax, cx, rfl, x1, x2, x3, b1⟩
  go_wp2_with fail
  refine (show Calls _ _ _ _ (Ret1 a3 w1) from O2.out w1).mono ?_
  rintro e w2 ⟨A3, c3, rfl, t1, t2, t3, b2⟩
  go_wp2_with fail
  have q1 := nmul_any Ax A3 cx c3 w2.heap.size aX a3 w2 (x3.on b2) t3 (M.lim_canon _) (M.lim_canon _) x1 t1 x2 t2 (Nat.le_refl _)
  rw [mulXY] at q1
  refine q1.mono ?_
  rintro e w3 ⟨Ay, cy, rfl, y1, y2, y3, b3⟩
  clear q1 t1 t2 t3
  go_wp2_with fail
  refine (show Calls _ _ _ _ (Ret1 a1 w3) from O3.out w3).mono ?_
  rintro e w4 ⟨A1, c1, rfl, t1, t2, t3, b4⟩
  go_wp2_with fail
  have q1 := nsub_any Ay A1 cy c1 w4.heap.size aY a1 w4 (y3.on b4) t3 (M.lim_canon _) (M.lim_canon _) y1 t1 y2 t2 (Nat.le_refl _)
  rw [subYZ] at q1
  refine q1.mono ?_
  rintro e w5 ⟨Az, cz, rfl, z1, z2, z3, b5⟩
  clear q1 t1 t2 t3
  go_wp2_with fail
  have q1 := ndiv_any Az cz w5.heap.size 10 aZ w5 z3 (M.lim_canon _) z1 z2 (Nat.le_refl _) (by omega) (by omega)
  rw [divZQ] at q1
  refine q1.mono ?_
  rintro e w6 ⟨Aq, cq, rfl, u1, u2, u3, b6⟩
  clear q1
  go_wp2_with fail
  have q1 := nparse_any ⟨#[49, 50, 56, 56, 52, 57, 48, 49, 56, 56, 55]⟩ w6 (by show 11 ≤ _; omega)
  rw [show parseS (ByteArray.mk #[49, 50, 56, 56, 52, 57, 48, 49, 56, 56, 55]).data.toList = (aZ, 0) from parseZ] at q1
  refine q1.mono ?_
  rintro e w7 ⟨Ap, cp, rfl, p1, p2, p3, b7⟩
  clear q1
  go_wp2_with fail
  refine (show Calls _ _ _ _ (Ret1 a1 w7) from O3.out w7).mono ?_
  rintro e w8 ⟨A1, c1, rfl, t1, t2, t3, b8⟩
  go_wp2_with fail
  have hx8 := (((((((x3.on b2).on b3).on b4).on b5).on b6).on b7).on b8)
  have q1 := nsub_any A1 Ax c1 cx w8.heap.size a1 aX w8 t3 hx8 (M.lim_canon _) (M.lim_canon _) t1 x1 t2 x2 (Nat.le_refl _)
  rw [sub1X] at q1
  refine q1.mono ?_
  rintro e w9 ⟨An, cn, rfl, v1, v2, v3, b9⟩
  clear q1 t1 t2 t3
  go_wp2_with fail
  have q1 := nparse_any ⟨#[48, 49]⟩ w9 (by show 2 ≤ _; omega)
  rw [show parseS (ByteArray.mk #[48, 49]).data.toList = ([], 3) from parse01] at q1
  refine q1.mono ?_
  rintro e w10 ⟨Am, cm, rfl, v4, v5, v6, b10⟩
  clear q1 v1 v2 v3 v4 v5 v6
  have hbw : Below w.heap.size w w10 := by
    have e1 := b1
    have e2 := e1.trans (b2.mono e1.size)
    have e3 := e2.trans (b3.mono e2.size)
    have e4 := e3.trans (b4.mono e3.size)
    have e5 := e4.trans (b5.mono e4.size)
    have e6 := e5.trans (b6.mono e5.size)
    have e7 := e6.trans (b7.mono e6.size)
    have e8 := e7.trans (b8.mono e7.size)
    have e9 := e8.trans (b9.mono e8.size)
    exact e9.trans (b10.mono e9.size)
  have hx := (hx8.on b9).on b10
  have hy := ((((((y3.on b4).on b5).on b6).on b7).on b8).on b9).on b10
  have hz := (((((z3.on b6).on b7).on b8).on b9).on b10)
  have hq := ((((u3.on b7).on b8).on b9).on b10)
  have hp := (((p3.on b8).on b9).on b10)
  have hT10 := hide (HT.out.below hbw)
  have HX := hide hx
  have HY := hide hy
  have HZ := hide hz
  have HQ := hide hq
  have HP := hide hp
  have hl2 : ((aX.length : Int) == 2) = true := by rw [cX]; rfl
  have hl2' : (1 : Int) < (aX.length : Int) := by rw [cX]; decide
  obtain ⟨gx, ox, rfl, _, hxc⟩ := hx (by rw [cX]; decide)
  have hx1 : w10.cell? ⟨gx, ox + 1, none⟩ = some (.int .u32 1) := by
    have := hxc 1 (by rw [cX]; decide)
    rw [cX] at this; exact this
  clear hx hy hz hq hp hx8 x3 y3 z3 u3 p3 b1 b2 b3 b4 b5 b6 b7 b8 b9 b10 hxc O1 O2 O3
  go_wp2_with fail
  have q1 := ntext_any Az cz w10.heap.size aZ w10 HZ.out limZ z1 z2 (Nat.le_refl _) hT10.out
  rw [textZ] at q1
  refine q1.mono ?_
  rintro e w11 ⟨rfl, b11⟩
  rw [show tZ = [49, 50, 56, 56, 52, 57, 48, 49, 56, 56, 55] from rfl]
  clear q1
  have hT11 := hide (hT10.out.below b11)
  go_wp2_with fail
  have q1 := ncmp_any Ap Az cp cz w11.heap.size aZ aZ w11 (HP.out.on b11) (HZ.out.on b11) limZ limZ p1 z1 p2 z2
  rw [cmpZZ] at q1
  refine q1.mono ?_
  rintro e w12 ⟨rfl, n12, h12⟩
  have b12 : Below w11.heap.size w11 w12 := by rw [h12]; exact below_drewN (Below.refl _ _) _
  clear q1 h12
  go_wp2_with fail
  have q1 := ncmp_any (some ⟨gx, ox, none⟩) Ay cx cy w12.heap.size aX aY w12 ((HX.out.on b11).on b12) ((HY.out.on b11).on b12) (M.lim_canon _) (M.lim_canon _) x1 y1 x2 y2
  rw [cmpXY] at q1
  refine q1.mono ?_
  rintro e w13 ⟨rfl, n13, h13⟩
  have b13 : Below w12.heap.size w12 w13 := by rw [h13]; exact below_drewN (Below.refl _ _) _
  clear q1 h13
  have hT13 := hide ((hT11.out.below b12).below b13)
  go_wp2_with fail
  have q1 := ntext_any Aq cq w13.heap.size aQ w13 (((HQ.out.on b11).on b12).on b13) (M.lim_canon _) u1 u2 (Nat.le_refl _) hT13.out
  rw [textQ] at q1
  refine q1.mono ?_
  rintro e w14 ⟨rfl, b14⟩
  rw [show tQ = [49, 50, 56, 56, 52, 57, 48, 49, 56, 56] from rfl]
  clear q1
  go_wp2_with fail
  have q1 := nbits_any (some ⟨gx, ox, none⟩) cx w14.heap.size aX w14 ((((HX.out.on b11).on b12).on b13).on b14) (M.lim_canon _) x1 x2
  rw [bitsX] at q1
  refine q1.mono ?_
  rintro e w15 ⟨rfl, n15, h15⟩
  have b15 : Below w14.heap.size w14 w15 := by rw [h15]; exact below_drewN (Below.refl _ _) _
  clear q1 h15
  go_wp2_with fail
  have q1 := nright_any Az cz w15.heap.size aZ w15 (((((HZ.out.on b11).on b12).on b13).on b14).on b15) (by omega)
  rw [rightZ] at q1
  refine q1.mono ?_
  rintro e w16 ⟨rfl, rfl⟩
  clear q1
  go_wp2_with fail
  have hu := UB.new w15 [0]
  have q1 := nright_any (some ⟨w15.heap.size, 0, none⟩) 1 (w15.heap.size + 1) [0] _ (hu.rd0 (by omega)) (by decide)
  rw [show right [0] = false from by decide] at q1
  refine q1.mono ?_
  rintro e w17 ⟨rfl, rfl⟩
  clear q1 hu
  have hfin : Below w.heap.size w (w15.alloc (.cells (([0] : List Int).map (Value.int .u32)).toArray 33)) := by
    have e11 := hbw.trans (b11.mono hbw.size)
    have e12 := e11.trans (b12.mono e11.size)
    have e13 := e12.trans (b13.mono e12.size)
    have e14 := e13.trans (b14.mono e13.size)
    have e15 := e14.trans (b15.mono e14.size)
    exact e15.alloc e15.size _
  have HF := hide hfin
  clear hfin hbw b11 b12 b13 b14 b15
  go_wp2
  go_ret
  exact ⟨rfl, HF.out⟩
end Go.Proofs.YthnfdbgejmkaaaaDoor
