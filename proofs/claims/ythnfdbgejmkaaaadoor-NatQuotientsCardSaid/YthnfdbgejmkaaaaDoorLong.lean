/- Contract of nat's divide over this program: long division, limb by limb, with a guess that is at most too great. -/
import Derived.Test.YthnfdbgejmkaaaaDoorShift
namespace Go.Proofs.YthnfdbgejmkaaaaDoor
open Go.RowKit

theorem lz_any (x : Int) (w : World) (x0 : 0 < x) (x1 : x < 4294967296) : Calls Tryd.prog 69 #[.int .u32 x] w fun e w' => ∃ s : Nat, s < 32 ∧ e = .returned (.int .i64 s) ∧ (x + 1) * tw s ≤ 4294967296 ∧ w = w' := by
  refine (Tryd.bits_LeadingZeros32 x w (by omega) (by omega)).mono ?_
  rintro e w' ⟨rfl, hw⟩
  have hb := Lib.bitLenAux_bounds 64 x.toNat (by omega) (by omega)
  have hle : Lib.bitLen x.toNat ≤ 32 := Lib.bitLen_le x.toNat 32 (by omega) (by omega)
  have h1 : 1 ≤ Lib.bitLen x.toNat := hb.1
  have h2 : x.toNat < 2 ^ Lib.bitLen x.toNat := hb.2.2
  generalize Lib.bitLen x.toNat = b at *
  refine ⟨32 - b, by omega, ret_int (by omega), ?_, hw.symm⟩
  have h3 : (x.toNat + 1) * 2 ^ (32 - b) ≤ 2 ^ b * 2 ^ (32 - b) := Nat.mul_le_mul_right _ h2
  rw [← Nat.pow_add, show b + (32 - b) = 32 by omega] at h3
  rw [tw_nat]
  have h4 : ((x.toNat + 1 : Nat) : Int) = x + 1 := by omega
  rw [← h4, ← Int.natCast_mul]
  omega

/-! The numbers of a step. -/
theorem top_fits {ys bl : List Int} {n : Nat} {D : Int} (hy : M.Lim ys) (hn : ys.length = n + 1) (hl : bl.length = n + 2) (hb : M.Lim bl) (hv : M.val bl = M.val ys * D) (hD : 1 ≤ D) (ht : (ys.getD n 0 + 1) * D ≤ 4294967296) :
    M.val (bl.take (n + 1)) = M.val ys * D := by
  have e1 := M.val_take_succ ys n
  rw [List.take_of_length_le (by omega)] at e1
  have b1 := (val_take_bd hy n).2
  have e2 := M.val_take_succ bl (n + 1)
  rw [List.take_of_length_le (by omega)] at e2
  have b2 := (val_take_bd hb (n + 1)).1
  have b3 := hb.getD (n + 1)
  have hu : M.val ys < M.pw n * (ys.getD n 0 + 1) := by rw [Int.mul_add, Int.mul_one]; omega
  have hm : M.val ys * D < M.pw n * (ys.getD n 0 + 1) * D := Int.mul_lt_mul_of_pos_right hu (by omega)
  have hm2 : M.pw n * ((ys.getD n 0 + 1) * D) ≤ M.pw n * 4294967296 := Int.mul_le_mul_of_nonneg_left ht (by have := M.pw_pos n; omega)
  rw [← Int.mul_assoc] at hm2
  have hp := M.pw_succ n
  have hpp := M.pw_pos (n + 1)
  rcases (by omega : bl.getD (n + 1) 0 = 0 ∨ 1 ≤ bl.getD (n + 1) 0) with h | h
  · rw [h] at e2; omega
  · have := Int.mul_le_mul_of_nonneg_left h (show 0 ≤ M.pw (n + 1) by omega); omega

theorem guess_high {ps bs : List Int} {n : Nat} {q : Int} (hp : M.Lim ps) (hb : M.Lim bs) (hpl : ps.length = n + 2) (hbl : bs.length = n + 1) (hq0 : 0 ≤ q)
    (hlt : M.val ps < M.val bs * 4294967296) (hq : (bs.getD n 0 ≤ ps.getD (n + 1) 0 ∧ q = 4294967295) ∨ (ps.getD (n + 1) 0 < bs.getD n 0 ∧ q = (ps.getD (n + 1) 0 * 4294967296 + ps.getD n 0) / bs.getD n 0)) : M.val ps < (q + 1) * M.val bs := by
  rcases hq with ⟨_, rfl⟩ | ⟨h1, hq⟩
  · rw [Int.mul_comm]; omega
  · have b1 := hp.getD (n + 1)
    have b0 := hp.getD n
    have bt := hb.getD n
    have e1 := M.val_take_succ ps (n + 1)
    rw [List.take_of_length_le (by omega), M.val_take_succ ps n, M.pw_succ] at e1
    have e2 := M.val_take_succ bs n
    rw [List.take_of_length_le (by omega)] at e2
    have c1 := (val_take_bd hp n).2
    have c2 := (val_take_bd hb n).1
    have hpn := M.pw_pos n
    generalize hy : ps.getD (n + 1) 0 = y at *
    generalize hx : ps.getD n 0 = x at *
    generalize ht : bs.getD n 0 = t at *
    generalize M.pw n = Pn at *
    have hd := Int.emod_add_mul_ediv (y * 4294967296 + x) t
    have hr := Int.emod_lt_of_pos (y * 4294967296 + x) (show 0 < t by omega)
    rw [← hq] at hd
    have k1 : y * 4294967296 + x + 1 ≤ (q + 1) * t := by rw [Int.add_mul, Int.one_mul, Int.mul_comm q t]; omega
    have k2 : Pn * (y * 4294967296 + x + 1) ≤ Pn * ((q + 1) * t) := Int.mul_le_mul_of_nonneg_left k1 (by omega)
    have k3 : 0 ≤ (q + 1) * M.val (bs.take n) := Int.mul_nonneg (by omega) c2
    have k4 : (q + 1) * M.val bs = (q + 1) * M.val (bs.take n) + Pn * ((q + 1) * t) := by rw [e2]; grind
    have k5 : M.val ps = M.val (ps.take n) + Pn * (y * 4294967296 + x) := by rw [e1]; grind
    have k6 : Pn * (y * 4294967296 + x + 1) = Pn * (y * 4294967296 + x) + Pn := by rw [Int.mul_add, Int.mul_one]
    omega

/-- What a part of a number is, when nothing stands above it. -/
theorem part_val {ll : List Int} {j n : Nat} {X : Int} (hl : M.Lim ll) (h : M.val ll < X * M.pw (j + 1)) (hX : X ≤ M.pw n) :
    M.val ll = M.val (ll.take j) + M.pw j * M.val ((ll.drop j).take (n + 1)) ∧ M.val (ll.drop (j + (n + 1))) = 0 ∧ M.val ((ll.drop j).take (n + 1)) < X * 4294967296 := by
  have e1 := val_split ll j
  have e2 := val_split (ll.drop j) (n + 1)
  rw [List.drop_drop] at e2
  have b0 := val_take_bd hl j
  have b1 := val_take_bd (hl.drop j) (n + 1)
  have b2 := M.val_nonneg (hl.drop (j + (n + 1)))
  have p1 := M.pw_pos j
  have p2 := M.pw_succ j
  have p3 := M.pw_pos (n + 1)
  have p4 := M.pw_succ n
  have hz : M.val (ll.drop (j + (n + 1))) = 0 := by
    rcases (by omega : M.val (ll.drop (j + (n + 1))) = 0 ∨ 1 ≤ M.val (ll.drop (j + (n + 1)))) with h0 | h0
    · exact h0
    · exfalso
      have k1 : M.pw (n + 1) * 1 ≤ M.pw (n + 1) * M.val (ll.drop (j + (n + 1))) := Int.mul_le_mul_of_nonneg_left h0 (by omega)
      have k2 : M.pw j * M.pw (n + 1) ≤ M.pw j * M.val (ll.drop j) := Int.mul_le_mul_of_nonneg_left (by omega) (by omega)
      have k3 : X * M.pw (j + 1) ≤ M.pw n * M.pw (j + 1) := Int.mul_le_mul_of_nonneg_right hX (by omega)
      have k4 : M.pw n * M.pw (j + 1) = M.pw j * M.pw (n + 1) := by rw [p2, p4]; grind
      omega
  refine ⟨by rw [e1, e2, hz, Int.mul_zero, Int.add_zero], hz, ?_⟩
  have k1 : M.pw j * M.val ((ll.drop j).take (n + 1)) ≤ M.val ll := by rw [e1, e2, hz, Int.mul_zero, Int.add_zero]; omega
  have k2 : M.pw j * M.val ((ll.drop j).take (n + 1)) < M.pw j * (X * 4294967296) := by
    have : X * M.pw (j + 1) = M.pw j * (X * 4294967296) := by rw [p2]; grind
    omega
  exact Int.lt_of_mul_lt_mul_left k2 (by omega)

theorem quo_step {ll os part' : List Int} {j n : Nat} {X V P q : Int} (hj : j < os.length) (hV : V = M.val ll + X * M.pw (j + 1) * M.val (os.drop (j + 1))) (hl : M.val ll = M.val (ll.take j) + M.pw j * P) (hp : M.val part' = P - q * X)
    (_hpl : part'.length = n + 1) (hz : M.val (ll.drop (j + (n + 1))) = 0) (hjl : j ≤ ll.length) :
    V = M.val (ll.take j ++ part' ++ ll.drop (j + (n + 1))) + X * M.pw j * M.val ((os.set j q).drop j) ∧ M.val (ll.take j ++ part' ++ ll.drop (j + (n + 1))) = M.val (ll.take j) + M.pw j * (P - q * X) := by
  have e1 : M.val (ll.take j ++ part' ++ ll.drop (j + (n + 1))) = M.val (ll.take j) + M.pw j * (P - q * X) := by
    rw [M.val_append, M.val_append, hz, Int.mul_zero, Int.add_zero, List.length_take, Nat.min_eq_left hjl, hp]
  refine ⟨?_, e1⟩
  rw [e1, M.val_drop (os.set j q) j (by rw [List.length_set]; exact hj), M.set_drop, M.gd_lt (by rw [List.length_set]; exact hj)]
  simp only [List.getElem_set_self]
  rw [hV, hl, M.pw_succ]
  grind

theorem quo_end {v u D L O : Int} (hD : 1 ≤ D) (_hu : 0 < u) (h : v * D = L + u * D * 1 * O) (h0 : 0 ≤ L) (h1 : L < u * D * 1) (hO : 0 ≤ O) : v / u = O ∧ L / D = v % u := by
  have e : L = D * (v - u * O) := by grind
  have k : 0 ≤ v - u * O := by
    rcases (by omega : 0 ≤ v - u * O ∨ v - u * O ≤ -1) with h | h
    · exact h
    · have := Int.mul_le_mul_of_nonneg_left h (show 0 ≤ D by omega); omega
  have k2 : v - u * O < u := by
    have : D * (v - u * O) < D * u := by rw [← e]; rw [Int.mul_one, Int.mul_comm] at h1; exact h1
    exact Int.lt_of_mul_lt_mul_left this (by omega)
  have hd := div_parts (X := v) (d := u) (q := O) (r := v - u * O) hO (by omega) k k2
  refine ⟨hd.1, ?_⟩
  rw [e, Int.mul_ediv_cancel_left _ (by omega), hd.2]
theorem take_t {P q X t W V' : Int} (hV : V' = P - q * X + W * t) (h0 : 0 ≤ t) (hP : 0 ≤ P) (hqX : q * X < W) (hV1 : V' < W) (hW : 0 ≤ W) : t = 0 ∨ t = 1 := by
  rcases (by omega : t = 0 ∨ t = 1 ∨ 2 ≤ t) with h | h | h
  · exact .inl h
  · exact .inr h
  · exfalso
    have := Int.mul_le_mul_of_nonneg_left h hW
    omega

theorem split3 (ll : List Int) (j k : Nat) : ll.take j ++ (ll.drop j).take k ++ ll.drop (j + k) = ll := by
  rw [List.append_assoc, ← List.drop_drop, List.take_append_drop, List.take_append_drop]

/-- What the cell of a block says, as a measure. -/
def cellNat (g j : Nat) (w : World) : Nat := match w.cell? ⟨g, j, none⟩ with | some (.int _ q) => q.toNat | _ => 0
theorem cellNat_is {w : World} {g : Nat} {ls : List Int} (h : UB w g ls) (j : Nat) (hj : j < ls.length) : cellNat g j w = (ls.getD j 0).toNat := by
  unfold cellNat; rw [h.cell j hj]

/-- What a step of the division has reached: at limb j (of the quotient) with the guess q. -/
structure At (g1 g2 g3 j n : Nat) (bs : List Int) (bl pre post os : List Int) (P : Int) (w0 : World) (B0 : Nat) (q t : Int) (pt : List Int) (w : World) : Prop where
  left : UB w g2 (pre ++ pt ++ post)
  often : UB w g3 (os.set j q)
  by_ : UB w g1 bl
  len : pt.length = n + 2
  lim : M.Lim pt
  v : M.val pt = P - q * M.val bs + M.pw (n + 2) * t
  q0 : 0 ≤ q
  q1 : q < 4294967296
  over : P < (q + 1) * M.val bs
  bel : Below B0 w0 w

set_option maxHeartbeats 4000000 in
set_option maxRecDepth 100000 in
theorem divide_any (A A' : Option Addr) (ca cb B n : Nat) (xs ys : List Int) (w : World) (hra : Rd w B A xs) (hrb : Rd w B A' ys) (hx : M.Lim xs) (hy : M.Lim ys) (hB : B ≤ w.heap.size)
    (hn : ys.length = n + 1) (hle : ys.length ≤ xs.length) (h32 : xs.length ≤ 32) (htop : ys.getD n 0 ≠ 0) (_hvu : M.val ys ≤ M.val xs) :
    Calls Tryd.prog 55 #[.slice A xs.length ca, .slice A' ys.length cb] w fun e w' => ∃ A1 c1 A2 c2, e = .returned (.tuple #[.slice A1 (M.canon (M.val xs / M.val ys).toNat).length c1, .slice A2 (M.canon (M.val xs % M.val ys).toNat).length c2]) ∧
      (M.canon (M.val xs / M.val ys).toNat).length ≤ c1 ∧ c1 ≤ 9223372036854775807 ∧ (M.canon (M.val xs % M.val ys).toNat).length ≤ c2 ∧ c2 ≤ 9223372036854775807 ∧ Rd w' w'.heap.size A1 (M.canon (M.val xs / M.val ys).toNat) ∧ Rd w' w'.heap.size A2 (M.canon (M.val xs % M.val ys).toNat) ∧ Below w.heap.size w w' := by
  obtain ⟨gb, ob, rfl, hgb, hcb⟩ := hrb (by omega)
  have hctop := hcb n (by omega)
  have btop := hy.getD n
  have LZ := hide (fun W : World => lz_any (ys.getD n 0) W (by omega) btop.2)
  have hrb' : Rd w B (some ⟨gb, ob, none⟩) ys := fun _ => ⟨gb, ob, rfl, hgb, hcb⟩
  have HRA := hide hra
  have HRB := hide hrb'
  have HX := hide hx
  have HY := hide hy
  have hlow : M.pw n ≤ M.val ys := by
    have e := M.val_take_succ ys n
    rw [List.take_of_length_le (by omega)] at e
    have b := M.val_nonneg (hy.take n)
    have m : M.pw n * 1 ≤ M.pw n * ys.getD n 0 := Int.mul_le_mul_of_nonneg_left (by omega) (by have := M.pw_pos n; omega)
    omega
  generalize htp : ys.getD n 0 = top at *
  have HTP := hide htp
  have hn0 : (0 : Int) ≤ (n : Int) := by omega
  have HN := hide hn
  rw [hn] at hle ⊢
  clear hcb hrb hrb' hra hx hy htp hn
  go_enter Tryd.func55, Tryd.ntmps55
  go_wp2_with fail
  refine (LZ.out w).mono ?_
  rintro e w' ⟨s, hs, rfl, hst, rfl⟩
  have SB := hide (by have q := shifted_any (some ⟨gb, ob, none⟩) cb B s ys w HRB.out HY.out (by have := HN.out; omega) hB hs; rw [HN.out] at q; exact q)
  go_wp2_with fail
  refine SB.out.mono ?_
  rintro e w1 ⟨rfl, bl, hbll, hblim, hblv, hub1, hb1⟩
  have bt := tw_bd hs
  have hbv := top_fits HY.out HN.out (by have := HN.out; omega) hblim hblv bt.1 (by rw [HTP.out]; exact hst)
  have HBV := hide hbv
  have SA := hide (shifted_any A ca B s xs w1 (HRA.out.below hb1 hB) HX.out h32 (by have := hb1.size; omega) hs)
  clear hbv hblv
  go_wp2_with fail
  refine SA.out.mono ?_
  rintro e w2 ⟨rfl, ll, hlll, hllim, hllv, hub2, hb2⟩
  obtain ⟨m, hm⟩ : ∃ m, m = xs.length - n := ⟨_, rfl⟩
  have hm1 : m + n ≤ xs.length := by omega
  have hm2 : xs.length ≤ m + n := by omega
  have hm3 : 1 ≤ m := by omega
  clear hm
  go_wp2_with (at_make; refine mk_arm rfl _ _ _ rfl Tryd.underlying23 m _ _ rfl rfl (by omega) (by omega) (by omega) ?_; intro w3 hub3 hb3 hs3)
  have g12 : w.heap.size < w1.heap.size := hub1.lt
  have g23 : w1.heap.size < w2.heap.size := hub2.lt
  have hb13 : Below w.heap.size w w3 := (hb1.trans (hb2.mono (by omega))).trans (hb3.mono (by omega))
  have hu1' : UB w3 w.heap.size bl := (hub1.below hb2 g12).below hb3 (by omega)
  have hu2' : UB w3 w1.heap.size ll := hub2.below hb3 g23
  generalize hg2 : w1.heap.size = g2 at *
  generalize hg3 : w2.heap.size = g3 at *
  generalize hg1 : w.heap.size = g1 at *
  have hG1 := hide hg1
  have hbs : (bl.take (n + 1)).length = n + 1 := by rw [List.length_take]; have := HN.out; omega
  have hbslim : M.Lim (bl.take (n + 1)) := hblim.take _
  have hbl1 : bl.length = n + 2 := by have := HN.out; omega
  obtain ⟨bs, hbse⟩ : ∃ bs, bs = bl.take (n + 1) := ⟨_, rfl⟩
  have hbn : bl.getD n 0 = bs.getD n 0 := by rw [hbse, M.gd_lt (by omega), M.gd_lt (by rw [List.length_take]; omega), List.getElem_take]
  have hbv := HBV.out
  rw [← hbse] at hbs hbslim hbv
  have hrdb : ∀ W : World, UB W g1 bl → Rd W g2 (some ⟨g1, 0, none⟩) bs := fun W h => by
    have := h.rd 0 (n + 1) (by omega) g12
    rw [List.drop_zero, ← hbse] at this; exact this
  have Xpos : 0 < M.val bs := by rw [hbv]; exact Int.mul_pos (by have := M.pw_pos n; omega) (by omega)
  have Xle : M.val bs ≤ M.pw (n + 1) := by have := M.val_lt hbslim; rw [hbs] at this; omega
  have hstart : M.val ll < M.val bs * M.pw m := by
    rw [hllv, hbv]
    have k1 := M.val_lt HX.out
    have k2 : M.pw xs.length = M.pw n * M.pw m := by rw [← M.pw_add]; congr 1; omega
    have k3 : M.pw n * M.pw m ≤ M.val ys * M.pw m := Int.mul_le_mul_of_nonneg_right hlow (by have := M.pw_pos m; omega)
    have k4 : M.val xs * tw s < M.val ys * M.pw m * tw s := Int.mul_lt_mul_of_pos_right (by omega) (by omega)
    have k5 : M.val ys * M.pw m * tw s = M.val ys * tw s * M.pw m := by grind
    omega
  have HBS := hide hbs
  have HBN := hide hbn
  have HBV2 := hide hbv
  have HLV := hide hllv
  have HST := hide hstart
  have HXL := hide hlll
  have HBL1 := hide hbl1
  have HRDB := hide hrdb
  obtain ⟨V, hV⟩ : ∃ V, V = M.val xs * tw s := ⟨_, rfl⟩
  have HVV := hide hV
  clear hV hllv hbv hbn hbs hstart hg1 hg2 hg3 hub1 hub2 hb1 hb2 hb3 hbse hlll hbl1 hrdb hbll LZ SB SA HBV
  go_wp2_with fail
  go_loopw [10] (fun vi wr => ∃ (i : Int) (k : Nat) (ll os : List Int), -1 ≤ i ∧ i + 1 = k ∧ k ≤ m ∧ vi = .int .i64 i ∧ ll.length = xs.length + 1 ∧ M.Lim ll ∧ os.length = m ∧ M.Lim os ∧ V = M.val ll + M.val bs * M.pw k * M.val (os.drop k) ∧ M.val ll < M.val bs * M.pw k ∧ UB wr g2 ll ∧ UB wr g3 os ∧ UB wr g1 bl ∧ Below g1 w wr) (fun vi _ => (intOf vi + 1).toNat)
  case atStart => exact ⟨(m : Int) - 1, m, ll, _, by omega, by omega, Nat.le_refl _, rfl, HXL.out, hllim, by simp, M.Lim.replicate _, by rw [HVV.out, List.drop_of_length_le (by simp), HLV.out]; simp [M.val], HST.out, hu2', hub3, hu1', hb13⟩
  case round =>
    clear hu1' hu2' hub3 hb13 hllim
    obtain ⟨i, k, ll, os, hi, hik, hk, rfl, hll, hlim, hol, holim, hVk, hlt0, hul, huo, hub, hbl⟩ := hrel
    by_cases hlt : 0 ≤ i
    · obtain ⟨j, rfl⟩ := Int.eq_ofNat_of_zero_le hlt
      obtain rfl : k = j + 1 := by omega
      obtain ⟨wo, hwo⟩ : ∃ wo : World, wo = wr := ⟨_, rfl⟩
      subst hwo
      have pv := part_val (n := n + 1) hlim hlt0 Xle
      have hsp := split3 ll j (n + 2)
      have hptl : ((ll.drop j).take (n + 2)).length = n + 2 := by rw [List.length_take, List.length_drop]; omega
      have hptlim : M.Lim ((ll.drop j).take (n + 2)) := (hlim.drop j).take _
      have hrdp := hul.rd j (n + 2) (by omega) (B := g2 + 1) (by omega)
      have hprel : (ll.take j).length = j := by rw [List.length_take]; omega
      have hjll : j ≤ ll.length := by omega
      generalize hpt : (ll.drop j).take (n + 2) = pt at *
      generalize hpre : ll.take j = pre at *
      generalize hpost : ll.drop (j + (n + 2)) = post at *
      have HVK := hide hVk
      have HLL := hide hll
      have HOL := hide hol
      have HPV := hide pv
      have HSP := hide hsp
      have HPT := hide hptl
      have HPRE := hide hprel
      have HPE := hide hpre
      have HPO := hide hpost
      have hcb := hub.cell n (by have := HBL1.out; omega)
      rw [HBN.out] at hcb
      have bn := hbslim.getD n
      generalize hbt : bs.getD n 0 = tb at *
      have HBT := hide hbt
      have GS := hide (guess_any (some ⟨g2, j, none⟩) (xs.length + 1 - j) (g2 + 1) n (j + (n + 1) + 1 - j) pt tb wo hrdp hptlim (by omega) hptl (by omega) bn.1 bn.2)
      have hoc := huo.cell j (by omega)
      have hof := huo.frozen j
      clear hVk hll hol pv hsp hptl hprel hpt hpre hpost hlt0 hbt hrdp
      go_wp2_with fail
      refine GS.out.mono ?_
      rintro e w5 ⟨q, rfl, q0, q1, hq, kk, hw5⟩
      have hul5 : UB w5 g2 (pre ++ pt ++ post) := by rw [HSP.out, hw5]; exact hul.drewN _
      have huo5 : UB w5 g3 os := by rw [hw5]; exact huo.drewN _
      have hub5 : UB w5 g1 bl := by rw [hw5]; exact hub.drewN _
      have hbl5 : Below g1 w w5 := by rw [hw5]; exact below_drewN hbl _
      have hoc5 := huo5.cell j (by have := HOL.out; omega)
      have hof5 := huo5.frozen j
      have hul6 : UB (w5.setCell ⟨g3, j, none⟩ (.int .u32 q)) g2 (pre ++ pt ++ post) := hul5.far (by show g2 ≠ g3; omega) _
      have huo6 : UB (w5.setCell ⟨g3, j, none⟩ (.int .u32 q)) g3 (os.set j q) := huo5.set_ _ _
      have hub6 : UB (w5.setCell ⟨g3, j, none⟩ (.int .u32 q)) g1 bl := hub5.far (by show g1 ≠ g3; omega) _
      have hbl6 : Below g1 w (w5.setCell ⟨g3, j, none⟩ (.int .u32 q)) := hbl5.setCell (by show g1 ≤ g3; omega) _
      have hbsl := HBS.out
      have hptl2 := HPT.out
      have TK := hide (takeFrom_n g2 j (j + (n + 1) + 1 - j) (xs.length + 1 - j) (n + 1) (n + 1 + 1) q (some ⟨g1, 0, none⟩) pre pt post bs _ hul6 HPRE.out.symm hptlim (HRDB.out _ hub6) hbslim (by omega) (by omega) q0 q1 (by omega) hbsl.symm)
      have hover := guess_high hptlim hbslim hptl2 hbsl q0 HPV.out.2.2 (by rw [HBT.out]; exact hq)
      have HOV := hide hover
      have HQ := hide hq
      have HW5 := hide hw5
      clear hover hq hw5 hptl2 hbsl hul hul5 huo hub hub5
      go_wp2_with fail
      refine TK.out.mono ?_
      rintro e w7 ⟨pt', t, rfl, t0, e1, e2, e3, e4, e5⟩
      have hP0 := M.val_nonneg hptlim
      have ht01 : t = 0 ∨ t = 1 := by
        have a1 := M.val_lt e2
        rw [e1] at a1
        have a2 : q * M.val bs < M.pw pt.length := by
          rw [HPT.out, M.pw_succ]
          have a3 : q * M.val bs ≤ 4294967295 * M.val bs := Int.mul_le_mul_of_nonneg_right (by omega) (by omega)
          have a4 := M.pw_pos (n + 1)
          omega
        exact take_t e3 t0 hP0 a2 a1 (by have := M.pw_pos pt.length; omega)
      have hbB : ∃ b : Bool, (t != 0) = b ∧ ((b = true ∧ t = 1) ∨ (b = false ∧ t = 0)) := by
        rcases ht01 with rfl | rfl
        · exact ⟨false, rfl, .inr ⟨rfl, rfl⟩⟩
        · exact ⟨true, rfl, .inl ⟨rfl, rfl⟩⟩
      have hat : At g1 g2 g3 j n bs bl pre post os (M.val pt) w g1 q t pt' w7 := {
        left := e4
        often := huo6.grown e5 (by intro h; injection h with h; omega)
        by_ := hub6.grown e5 (by intro h; injection h with h; omega)
        len := by rw [e1]; exact HPT.out
        lim := e2
        v := by rw [e3, HPT.out]
        q0 := q0
        q1 := q1
        over := HOV.out
        bel := below_only hbl6 e5 (by omega) (by have := hbl6.size; have := hG1.out; omega) }
      obtain ⟨b, hbb, hbt⟩ := hbB
      rw [hbb]
      have HAT := hide hat
      have HBT2 := hide hbt
      clear e1 e3 e4 e5 hat huo6 hub6 hul6 hbl6 hbb hbt ht01 TK GS hoc5 hof5 huo5 hoc hof
      go_wp2_with fail
      go_loopw [12] (fun vb wr => ∃ (q t : Int) (pt' : List Int) (b : Bool), vb = .bool b ∧ ((b = true ∧ t = 1) ∨ (b = false ∧ t = 0)) ∧ At g1 g2 g3 j n bs bl pre post os (M.val pt) w g1 q t pt' wr) (fun _ wr => cellNat g3 j wr)
      case atStart => exact ⟨q, t, pt', b, rfl, HBT2.out, HAT.out⟩
      case round =>
        clear HBT2 HAT t0
        obtain ⟨q, t, pt', b, rfl, hbt, hat⟩ := hrel
        have hsl : (os.set j q).length = m := by rw [List.length_set]; exact HOL.out
        rcases hbt with ⟨rfl, rfl⟩ | ⟨rfl, rfl⟩
        · have hq1 : 1 ≤ q := by
            have a1 := hat.v
            have a2 := M.val_lt hat.lim
            rw [hat.len] at a2
            have a3 := hat.q0
            rcases (by omega : q = 0 ∨ 1 ≤ q) with h | h
            · subst h; rw [Int.zero_mul] at a1; omega
            · exact h
          have hqb := hat.q1
          have hoc := hat.often.cell j (by omega)
          have hog : (os.set j q).getD j 0 = q := by rw [M.gd_lt (by omega)]; simp
          rw [hog] at hoc
          have hof := hat.often.frozen j
          have hul6 : UB (wr.setCell ⟨g3, j, none⟩ (.int .u32 (q - 1))) g2 (pre ++ pt' ++ post) := hat.left.far (by show g2 ≠ g3; omega) _
          have huo6 : UB (wr.setCell ⟨g3, j, none⟩ (.int .u32 (q - 1))) g3 (os.set j (q - 1)) := by
            have := hat.often.set_ j (q - 1); rwa [List.set_set] at this
          have hub6 : UB (wr.setCell ⟨g3, j, none⟩ (.int .u32 (q - 1))) g1 bl := hat.by_.far (by show g1 ≠ g3; omega) _
          have hbl6 : Below g1 w (wr.setCell ⟨g3, j, none⟩ (.int .u32 (q - 1))) := hat.bel.setCell (by show g1 ≤ g3; omega) _
          have hbsl := HBS.out
          have hlen := hat.len
          have AD := hide (addTo_n g2 j (j + (n + 1) + 1 - j) (xs.length + 1 - j) (n + 1) (n + 1 + 1) (some ⟨g1, 0, none⟩) pre pt' post bs _ hul6 HPRE.out.symm hat.lim (HRDB.out _ hub6) hbslim (by omega) (by omega) (by omega) hbsl.symm)
          have hmeas : cellNat g3 j wr = q.toNat := by rw [cellNat_is hat.often j (by omega), hog]
          have HM := hide hmeas
          have HA := hide hat
          have HSL := hide hsl
          clear hsl hog hat hmeas hbsl hlen hul6
          go_wp2_with fail
          refine AD.out.mono ?_
          rintro e w8 ⟨pt2, c, rfl, c01, f1, f2, f3, f4, f5⟩
          have hat2 : At g1 g2 g3 j n bs bl pre post os (M.val pt) w g1 (q - 1) (1 - c) pt2 w8 := {
            left := f4
            often := huo6.grown f5 (by intro h; injection h with h; omega)
            by_ := hub6.grown f5 (by intro h; injection h with h; omega)
            len := by rw [f1]; exact HA.out.len
            lim := f2
            v := by
              have a1 := HA.out.v
              rw [HA.out.len] at f3
              rw [Int.sub_mul, Int.one_mul, Int.mul_sub, Int.mul_one]
              omega
            q0 := by omega
            q1 := by omega
            over := by
              have a1 := HA.out.v
              have a2 := M.val_lt HA.out.lim
              rw [HA.out.len] at a2
              rw [show q - 1 + 1 = q by omega]; omega
            bel := below_only hbl6 f5 (by omega) (by have := hbl6.size; have := hG1.out; omega) }
          have hbb : ∃ b : Bool, (!(c != 0)) = b ∧ ((b = true ∧ 1 - c = 1) ∨ (b = false ∧ 1 - c = 0)) := by
            rcases c01 with rfl | rfl
            · exact ⟨true, rfl, .inl ⟨rfl, rfl⟩⟩
            · exact ⟨false, rfl, .inr ⟨rfl, rfl⟩⟩
          have hcn : ∃ b : Bool, (c != 0) = b := ⟨_, rfl⟩
          obtain ⟨b2, hb2, hbt2⟩ := hbb
          obtain ⟨b3, hb3⟩ := hcn
          rw [hb3] at hb2 ⊢
          have HB2 := hide hb2
          have HBT3 := hide hbt2
          have HA2 := hide hat2
          clear f1 f3 f4 f5 hat2 hb2 hb3 hbt2 huo6 hub6 hbl6 c01
          go_wp2
          go_roundw
          case rel => exact ⟨q - 1, 1 - c, pt2, b2, by rw [← HB2.out], HBT3.out, HA2.out⟩
          case measure =>
            have e1 := HM.out
            have e2 := cellNat_is HA2.out.often j (by rw [List.length_set]; have := HOL.out; omega)
            have e3 : (os.set j (q - 1)).getD j 0 = q - 1 := by rw [M.gd_lt (by rw [List.length_set]; have := HOL.out; omega)]; simp
            rw [e3] at e2
            omega
        · have hstep := quo_step (ll := ll) (os := os) (part' := pt') (j := j) (n := n + 1) (X := M.val bs) (V := V) (P := M.val pt) (q := q) (by have := HOL.out; omega) HVK.out (by rw [HPE.out]; exact HPV.out.1) (by have := hat.v; rw [Int.mul_zero, Int.add_zero] at this; exact this) hat.len (by rw [HPO.out]; exact HPV.out.2.1) hjll
          rw [HPE.out, HPO.out] at hstep
          have hnew : M.val (pre ++ pt' ++ post) < M.val bs * M.pw j := by
            rw [hstep.2]
            have a0 := hat.over
            have a1 := hat.v
            rw [Int.mul_zero, Int.add_zero] at a1
            have a2 := (val_take_bd hlim j).2
            rw [HPE.out] at a2
            have a3 : M.val pt - q * M.val bs + 1 ≤ M.val bs := by rw [Int.add_mul, Int.one_mul] at a0; omega
            have a4 : M.pw j * (M.val pt - q * M.val bs + 1) ≤ M.pw j * M.val bs := Int.mul_le_mul_of_nonneg_left a3 (by have := M.pw_pos j; omega)
            rw [Int.mul_add, Int.mul_one, Int.mul_comm (M.pw j) (M.val bs)] at a4
            omega
          have hlen2 : (pre ++ pt' ++ post).length = xs.length + 1 := by
            have a1 := congrArg List.length HSP.out
            rw [List.length_append, List.length_append, HPT.out, HLL.out] at a1
            rw [List.length_append, List.length_append, hat.len]; exact a1
          have hlim2 : M.Lim (pre ++ pt' ++ post) := by
            rw [← HPE.out, ← HPO.out]
            exact ((hlim.take j).append hat.lim).append (hlim.drop _)
          have holim2 : M.Lim (os.set j q) := holim.set j hat.q0 hat.q1
          have HS1 := hide hstep.1
          have HS2 := hide hnew
          have HS3 := hide hlen2
          have HA := hide hat
          clear hstep hnew hlen2 hat hsl
          go_wp2
          go_roundw
          case rel => exact ⟨(j : Int) - 1, j, _, os.set j q, by omega, by omega, by omega, rfl, HS3.out, hlim2, by rw [List.length_set]; exact HOL.out, holim2, HS1.out, HS2.out, HA.out.left, HA.out.often, HA.out.by_, HA.out.bel⟩
          case measure => simp [intOf]
    · obtain rfl : i = -1 := by omega
      obtain rfl : k = 0 := by omega
      have bt2 := tw_bd hs
      rw [M.pw_zero, List.drop_zero, HVV.out, HBV2.out] at hVk
      rw [M.pw_zero, HBV2.out] at hlt0
      have hqe := quo_end bt2.1 (by have := M.pw_pos n; omega) hVk (M.val_nonneg hlim) hlt0 (M.val_nonneg holim)
      have SB2 := hide (shiftBack_any g2 s (xs.length + 1) (xs.length + 1) ll wr hul hlim hll.symm (by omega) hs)
      have HE := hide hqe
      have HOL := hide hol
      have HLL := hide hll
      clear hVk hlt0 hqe hol hll
      go_wp2_with fail
      refine SB2.out.mono ?_
      rintro e w8 ⟨rfl, ps, p1, p2, p3, p4, p5⟩
      rw [HE.out.2] at p3
      have huo8 := huo.grown p5 (by intro h; injection h with h; omega)
      have hbl8 : Below g1 w w8 := below_only hbl p5 (by omega) (by have := hbl.size; have := hG1.out; omega)
      rw [← hG1.out] at hbl8
      have T1 := trim_own g3 m m os w w8 huo8 holim hbl8 HOL.out.symm (by have := HOL.out; omega) (by omega)
      have T2 := trim_own g2 (xs.length + 1) (xs.length + 1) ps w w8 p4 p2 hbl8 (by have := HLL.out; omega) (by have := HLL.out; omega) (by omega)
      rw [← HE.out.1] at T1
      rw [p3] at T2
      have HT1 := hide T1
      have HT2 := hide T2
      clear T1 T2 p1 p3 p5 huo8 hul huo hub
      go_wp2_with fail
      refine HT1.out.mono ?_
      rintro e w9 ⟨A1, c1, rfl, u1, u2, u3, u4, rfl⟩
      go_wp2_with fail
      refine HT2.out.mono ?_
      rintro e w10 ⟨A2, c2, rfl, v1, v2, v3, v4, rfl⟩
      go_wp2
      go_ret2
      exact ⟨A1, c1, A2, c2, rfl, u1, u2, v1, v2, u3, v3, u4⟩
end Go.Proofs.YthnfdbgejmkaaaaDoor
