/- Contracts of the document's Cmp, Add and Sub over this program: they answer what nat's do. -/
import Derived.Test.YtbimhacggbgcoaaHigh
namespace Go.Proofs.Ytbimhacggbgcoaa
open Go.RowKit

theorem val_congr {xs ys : List Int} (h : ∀ m, xs.getD m 0 = ys.getD m 0) : M.val xs = M.val ys := by
  induction xs generalizing ys with
  | nil =>
    induction ys with
    | nil => rfl
    | cons y r ih =>
      have h0 := h 0
      have hr := ih (fun m => by have := h (m + 1); simpa [List.getD] using this)
      simp [List.getD] at h0
      rw [M.val_cons, ← hr, ← h0]; rfl
  | cons x r ih =>
    cases ys with
    | nil =>
      have h0 := h 0
      have hr := @ih [] (fun m => by have := h (m + 1); simpa [List.getD] using this)
      simp [List.getD] at h0
      rw [M.val_cons, hr, h0]; rfl
    | cons y s =>
      have h0 := h 0
      have hr := @ih s (fun m => by have := h (m + 1); simpa [List.getD] using this)
      simp [List.getD] at h0
      rw [M.val_cons, M.val_cons, hr, h0]
theorem val_split (l : List Int) (k : Nat) : M.val l = M.val (l.take k) + M.pw k * M.val (l.drop k) := by
  rcases Nat.le_total k l.length with h | h
  · exact M.val_take_drop l k h
  · rw [List.take_of_length_le h, List.drop_of_length_le h]; simp [M.val]
theorem drop_congr {xs ys : List Int} {k : Nat} (h : ∀ m, k ≤ m → xs.getD m 0 = ys.getD m 0) : M.val (xs.drop k) = M.val (ys.drop k) :=
  val_congr fun m => by have := h (k + m) (by omega); simpa [List.getD, List.getElem?_drop] using this
theorem val_take_bd {l : List Int} (h : M.Lim l) (k : Nat) : 0 ≤ M.val (l.take k) ∧ M.val (l.take k) < M.pw k := by
  refine ⟨M.val_nonneg (h.take k), ?_⟩
  have h1 := M.val_lt (h.take k)
  have h2 := M.pw_mono (show (l.take k).length ≤ k by rw [List.length_take]; omega)
  omega
theorem vals_less {xs ys : List Int} {j : Nat} {x y : Int} (hx : M.Lim xs) (hy : M.Lim ys) (hd : ∀ m, j + 1 ≤ m → xs.getD m 0 = ys.getD m 0) (ex : xs.getD j 0 = x) (ey : ys.getD j 0 = y) (h : x < y) : M.val xs < M.val ys := by
  have e1 := val_split xs (j + 1)
  have e2 := val_split ys (j + 1)
  rw [M.val_take_succ, ex] at e1
  rw [M.val_take_succ, ey] at e2
  rw [drop_congr hd] at e1
  have b1 := (val_take_bd hx j).2
  have b2 := (val_take_bd hy j).1
  have m : M.pw j * (x + 1) ≤ M.pw j * y := Int.mul_le_mul_of_nonneg_left (by omega) (by have := M.pw_pos j; omega)
  rw [Int.mul_add, Int.mul_one] at m
  omega

set_option maxHeartbeats 1000000 in
set_option maxRecDepth 100000 in
theorem rcmp_any (A A' : Option Addr) (ca cb B : Nat) (xs ys : List Int) (w : World) (hra : Rd w B A xs) (hrb : Rd w B A' ys) (hx : M.Lim xs) (hy : M.Lim ys) (hxc : xs.length ≤ ca) (hyc : ys.length ≤ cb) (hca : ca ≤ 9223372036854775807) (hcb : cb ≤ 9223372036854775807) :
    Calls Try.prog 13 #[.slice A xs.length ca, .slice A' ys.length cb] w fun e w' => e = .returned (.int .i64 (cmpS xs ys)) ∧ w = w' := by
  have C1 := rright_any A ca B xs w hra (by omega)
  have C2 := rright_any A' cb B ys w hrb (by omega)
  by_cases h1 : right xs = true
  · rw [h1] at C1
    by_cases h2 : right ys = true
    · have l1 := right_len h1
      have l2 := right_len h2
      have hS : cmpS xs ys = cmpI (M.val xs) (M.val ys) := by unfold cmpS; rw [h1, h2]; rfl
      rw [hS]
      rw [h2] at C2
      have D1 := hide C1
      have D2 := hide C2
      have HX := hide hx
      have HY := hide hy
      clear hS C1 C2 hx hy h1 h2
      go_enter Try.func13, Try.ntmps13
      go_wp2_with fail
      refine D1.out.mono ?_; rintro e w' ⟨rfl, rfl⟩
      go_wp2_with fail
      refine D2.out.mono ?_; rintro e w' ⟨rfl, rfl⟩
      go_wp2_with fail
      go_loop [5] (fun vi => ∃ (i : Int) (k : Nat), -1 ≤ i ∧ i + 1 = k ∧ k ≤ 32 ∧ vi = .int .i64 i ∧ (∀ m, k ≤ m → xs.getD m 0 = ys.getD m 0)) (fun vi => (intOf vi + 1).toNat)
      case atStart => exact ⟨31, 32, by omega, rfl, Nat.le_refl _, rfl, fun m hm => by rw [M.gd_ge (by omega), M.gd_ge (by omega)]⟩
      case round =>
        obtain ⟨i, k, hi, hik, hk, rfl, hd⟩ := hrel
        have HD := hide hd
        clear hd
        by_cases hlt : 0 ≤ i
        · obtain ⟨j, rfl⟩ := Int.eq_ofNat_of_zero_le hlt
          obtain rfl : k = j + 1 := by omega
          have L1 := fun W : World => fun (h : Rd W B A xs) => limb_any A ca j B xs W h HX.out (by omega) (by omega)
          have L2 := fun W : World => fun (h : Rd W B A' ys) => limb_any A' cb j B ys W h HY.out (by omega) (by omega)
          have bx := HX.out.getD j
          have b_y := HY.out.getD j
          generalize hX : xs.getD j 0 = x at *
          generalize hY : ys.getD j 0 = y at *
          have EX := hide hX
          have EY := hide hY
          have M1 := hide L1
          have M2 := hide L2
          have R1 := hide hra
          have R2 := hide hrb
          clear hX hY L1 L2 hra hrb
          rcases Int.lt_trichotomy x y with h | h | h
          · have HN : Hid (cmpI (M.val xs) (M.val ys) = -1) := cmpI_lt (vals_less HX.out HY.out HD.out EX.out EY.out h)
            go_wp2_with fail
            refine (M1.out _ R1.out).mono ?_; rintro e w' ⟨rfl, rfl⟩
            go_wp2_with fail
            refine (M2.out _ R2.out).mono ?_; rintro e w' ⟨rfl, rfl⟩
            go_wp2
            go_ret
            exact ⟨ret_int HN.out.symm, rfl⟩
          · subst h
            have HN : Hid (∀ m, j ≤ m → xs.getD m 0 = ys.getD m 0) := fun m hm => by
              by_cases e : m = j
              · rw [e, EX.out, EY.out]
              · exact HD.out m (by omega)
            go_wp2_with fail
            refine (M1.out _ R1.out).mono ?_; rintro e w' ⟨rfl, rfl⟩
            go_wp2_with fail
            refine (M2.out _ R2.out).mono ?_; rintro e w' ⟨rfl, rfl⟩
            go_wp2_with fail
            refine (M1.out _ R1.out).mono ?_; rintro e w' ⟨rfl, rfl⟩
            go_wp2_with fail
            refine (M2.out _ R2.out).mono ?_; rintro e w' ⟨rfl, rfl⟩
            go_wp2
            go_round
            case rel => exact ⟨(j : Int) - 1, j, by omega, by omega, by omega, rfl, HN.out⟩
            case measure => simp [intOf]
          · have HN : Hid (cmpI (M.val xs) (M.val ys) = 1) := cmpI_gt (vals_less HY.out HX.out (fun m hm => (HD.out m hm).symm) EY.out EX.out h)
            go_wp2_with fail
            refine (M1.out _ R1.out).mono ?_; rintro e w' ⟨rfl, rfl⟩
            go_wp2_with fail
            refine (M2.out _ R2.out).mono ?_; rintro e w' ⟨rfl, rfl⟩
            go_wp2_with fail
            refine (M1.out _ R1.out).mono ?_; rintro e w' ⟨rfl, rfl⟩
            go_wp2_with fail
            refine (M2.out _ R2.out).mono ?_; rintro e w' ⟨rfl, rfl⟩
            go_wp2
            go_ret
            exact ⟨ret_int HN.out.symm, rfl⟩
        · obtain rfl : i = -1 := by omega
          obtain rfl : k = 0 := by omega
          have HN : Hid (cmpI (M.val xs) (M.val ys) = 0) := by
            show cmpI (M.val xs) (M.val ys) = 0
            rw [val_congr (fun m => HD.out m (by omega))]; exact cmpI_eq
          clear hra hrb
          go_wp2
          go_ret
          exact ⟨ret_int HN.out.symm, rfl⟩
    · have h2 : right ys = false := by simpa using h2
      have hS : cmpS xs ys = 0 := by unfold cmpS; rw [h1, h2]; rfl
      rw [hS]
      rw [h2] at C2
      have D1 := hide C1
      have D2 := hide C2
      clear h1 h2 hS hra hrb C1 C2
      go_enter Try.func13, Try.ntmps13
      go_wp2_with fail
      refine D1.out.mono ?_; rintro e w' ⟨rfl, rfl⟩
      go_wp2_with fail
      refine D2.out.mono ?_; rintro e w' ⟨rfl, rfl⟩
      go_wp2
      go_ret
      exact ⟨rfl, rfl⟩
  · have h1 : right xs = false := by simpa using h1
    have hS : cmpS xs ys = 0 := by unfold cmpS; rw [h1]; rfl
    rw [hS]
    rw [h1] at C1
    have D1 := hide C1
    clear h1 hS C2 hra hrb C1
    go_enter Try.func13, Try.ntmps13
    go_wp2_with fail
    refine D1.out.mono ?_; rintro e w' ⟨rfl, rfl⟩
    go_wp2
    go_ret
    exact ⟨rfl, rfl⟩

theorem add_step' {xs ys os : List Int} {k : Nat} {c s x y : Int} (hl : os.length = k) (hv : M.val os + M.pw k * c = M.val (xs.take k) + M.val (ys.take k)) (hx : xs.getD k 0 = x) (hy : ys.getD k 0 = y) (hs : s = x + y + c) :
    M.val (os ++ [s % 4294967296]) + M.pw (k + 1) * (s / 4294967296) = M.val (xs.take (k + 1)) + M.val (ys.take (k + 1)) := by
  rw [M.val_snoc, M.val_take_succ, M.val_take_succ, hx, hy, hl, M.pw_succ]
  have := Int.emod_add_mul_ediv s 4294967296
  generalize s % 4294967296 = r at *
  generalize s / 4294967296 = q at *
  generalize M.pw k = P at *
  grind
theorem sub_step' {xs ys os : List Int} {k : Nat} {b s x y : Int} (hl : os.length = k) (hv : M.val os = M.val (xs.take k) - M.val (ys.take k) + M.pw k * b) (hx : xs.getD k 0 = x) (hy : ys.getD k 0 = y) (hs : s = 4294967296 + x - y - b) :
    M.val (os ++ [s % 4294967296]) = M.val (xs.take (k + 1)) - M.val (ys.take (k + 1)) + M.pw (k + 1) * (1 - s / 4294967296) := by
  rw [M.val_snoc, M.val_take_succ, M.val_take_succ, hx, hy, hl, M.pw_succ]
  have := Int.emod_add_mul_ediv s 4294967296
  generalize s % 4294967296 = r at *
  generalize s / 4294967296 = q at *
  generalize M.pw k = P at *
  grind

set_option maxHeartbeats 1000000 in
set_option maxRecDepth 100000 in
theorem rsub_any (A A' : Option Addr) (ca cb B : Nat) (xs ys : List Int) (w : World) (hra : Rd w B A xs) (hrb : Rd w B A' ys) (hx : M.Lim xs) (hy : M.Lim ys) (hxc : xs.length ≤ ca) (hyc : ys.length ≤ cb) (hca : ca ≤ 9223372036854775807) (hcb : cb ≤ 9223372036854775807) (hB : B ≤ w.heap.size) :
    Calls Try.prog 31 #[.slice A xs.length ca, .slice A' ys.length cb] w (Ret2 (subS xs ys) w) := by
  have C1 := rright_any A ca B xs w hra (by omega)
  have C2 := rright_any A' cb B ys w hrb (by omega)
  have C3 := rcmp_any A A' ca cb B xs ys w hra hrb hx hy hxc hyc hca hcb
  by_cases h1 : right xs = true
  · rw [h1] at C1
    by_cases h2 : right ys = true
    · have l1 := right_len h1
      have l2 := right_len h2
      rw [h2] at C2
      rw [show cmpS xs ys = cmpI (M.val xs) (M.val ys) by unfold cmpS; rw [h1, h2]; rfl] at C3
      by_cases hlt : M.val xs < M.val ys
      · have hS : subS xs ys = ([], 11) := by unfold subS; rw [h1, h2, if_pos hlt]; rfl
        rw [hS]
        rw [cmpI_lt hlt] at C3
        have D1 := hide C1
        have D2 := hide C2
        have D3 := hide C3
        clear hS h1 h2 hlt C1 C2 C3 hra hrb
        go_enter Try.func31, Try.ntmps31
        go_wp2_with fail
        refine D1.out.mono ?_; rintro e w' ⟨rfl, rfl⟩
        go_wp2_with fail
        refine D2.out.mono ?_; rintro e w' ⟨rfl, rfl⟩
        go_wp2_with fail
        refine D3.out.mono ?_; rintro e w' ⟨rfl, rfl⟩
        go_wp2
        go_ret2
        exact Ret2.bad 11 _ _ (Below.refl _ _)
      · have hS : subS xs ys = fitL (M.val xs - M.val ys).toNat := by
          unfold subS; rw [h1, h2, if_neg hlt]
          have hb1 := M.val_lt hx
          have hb2 := M.val_nonneg hy
          have hb3 := M.pw_mono l1
          have hc : (M.canon (M.val xs - M.val ys).toNat).length ≤ 32 := M.canon_length_le.2 (by omega)
          unfold fitL; rw [if_pos hc]; rfl
        rw [hS]
        have hcc : 0 ≤ cmpI (M.val xs) (M.val ys) := by unfold cmpI; rw [if_neg hlt]; split <;> omega
        generalize cmpI (M.val xs) (M.val ys) = cc at *
        have hv : M.val ys ≤ M.val xs := by omega
        have D1 := hide C1
        have D2 := hide C2
        have D3 := hide C3
        have HX := hide hx
        have HY := hide hy
        have HVV := hide hv
        clear hS C1 C2 C3 hx hy h1 h2 hlt hv
        go_enter Try.func31, Try.ntmps31
        go_wp2_with fail
        refine D1.out.mono ?_; rintro e w' ⟨rfl, rfl⟩
        go_wp2_with fail
        refine D2.out.mono ?_; rintro e w' ⟨rfl, rfl⟩
        go_wp2_with fail
        refine D3.out.mono ?_; rintro e w' ⟨rfl, rfl⟩
        go_wp2_with fail
        go_loopw [6, 7, 8] (fun vo vc vi wr => ∃ (k : Nat) (c : Int) (os : List Int), k ≤ 32 ∧ vi = .int .i64 k ∧ vc = .int .u64 c ∧ 0 ≤ c ∧ c ≤ 1 ∧ OwnU wr w.heap.size vo os ∧ os.length = k ∧ M.Lim os ∧ M.val os = M.val (xs.take k) - M.val (ys.take k) + M.pw k * c ∧ Below w.heap.size w wr) (fun _ _ vi _ => 32 - (intOf vi).toNat)
        case atStart => exact ⟨0, 0, [], by omega, rfl, rfl, by omega, by omega, OwnU.nil _ _, rfl, M.Lim.nil, by simp [M.val], Below.refl _ _⟩
        case round =>
          rename_i vo _
          obtain ⟨k, c, os, hk, rfl, rfl, c0, c1, hown, hlen, hlim, hval, hbl⟩ := hrel
          have HL := hide hlen
          have HV := hide hval
          clear hlen hval
          by_cases hlt : k < 32
          · have L1 := hide (limb_any A ca k B xs wr (hra.below hbl hB) HX.out (by omega) (by omega))
            have L2 := hide (limb_any A' cb k B ys wr (hrb.below hbl hB) HY.out (by omega) (by omega))
            have bx := HX.out.getD k
            have b_y := HY.out.getD k
            generalize hX : xs.getD k 0 = x at *
            generalize hY : ys.getD k 0 = y at *
            have EX := hide hX
            have EY := hide hY
            clear hX hY hra hrb
            go_wp2_with fail
            refine L1.out.mono ?_; rintro e w' ⟨rfl, rfl⟩
            go_wp2_with fail
            refine L2.out.mono ?_; rintro e w' ⟨rfl, rfl⟩
            go_wp2_with (at_builtin; refine ap_arm rfl (.tmp 36) (.tmp 40) _ rfl Try.underlying23 w.heap.size _ os rfl (hown.alloc _) wr.heap.size 1 ((4294967296 + x - y - c) % 4294967296) rfl (World.cell?_alloc_new _ _ _ 0) (by have := HL.out; omega) (by have := hbl.size; simp; omega) ?_; intro v' w2 ho2 hg2)
            go_roundw
            case rel =>
              have hlm : M.Lim (os ++ [(4294967296 + x - y - c) % 4294967296]) := hlim.snoc (by omega) (by omega)
              exact ⟨k + 1, 1 - (4294967296 + x - y - c) / 4294967296, os ++ [(4294967296 + x - y - c) % 4294967296], by omega, by go_num, rfl, by omega, by omega, ho2, by rw [List.length_append, HL.out]; rfl, hlm, sub_step' HL.out HV.out EX.out EY.out rfl, below_grown (hbl.alloc hbl.size _) (hown.alloc _) hg2 (by have := hbl.size; simp; omega)⟩
            case measure => simp [intOf]; omega
          · obtain rfl : k = 32 := by omega
            have hv := HV.out
            have hl := HL.out
            rw [List.take_of_length_le (by omega), List.take_of_length_le (by omega)] at hv
            have b0 := HVV.out
            have b1 := M.val_lt hlim
            rw [hl] at b1
            have hv2 : M.val os = M.val xs - M.val ys := by
              rcases (by omega : c = 0 ∨ c = 1) with h | h
              · subst h; omega
              · subst h; omega
            obtain ⟨Ao, co, rfl, ho1, ho2, ho3⟩ := hown.form
            have S := small_any Ao os.length co wr.heap.size os w wr ho3 hlim hbl (Nat.le_refl _) rfl ho1 (by unfold maxLen at ho2; omega)
            rw [hv2] at S
            have HS := hide S
            clear S hv hv2 b0 b1 hl hra hrb
            go_wp2_with fail
            refine HS.out.mono ?_
            rintro e w4 ⟨A4, c4, rfl, m1, m2, m3, m4⟩
            go_wp2
            go_ret2
            exact ⟨A4, c4, rfl, m1, m2, m3, m4⟩
    · have h2 : right ys = false := by simpa using h2
      have hS : subS xs ys = ([], 1) := by unfold subS; rw [h1, h2]; rfl
      rw [hS]
      rw [h2] at C2
      have D1 := hide C1
      have D2 := hide C2
      clear h1 h2 hS hra hrb C1 C2 C3
      go_enter Try.func31, Try.ntmps31
      go_wp2_with fail
      refine D1.out.mono ?_; rintro e w' ⟨rfl, rfl⟩
      go_wp2_with fail
      refine D2.out.mono ?_; rintro e w' ⟨rfl, rfl⟩
      go_wp2
      go_ret2
      exact Ret2.bad 1 _ _ (Below.refl _ _)
  · have h1 : right xs = false := by simpa using h1
    have hS : subS xs ys = ([], 1) := by unfold subS; rw [h1]; rfl
    rw [hS]
    rw [h1] at C1
    have D1 := hide C1
    clear h1 hS C2 C3 hra hrb C1
    go_enter Try.func31, Try.ntmps31
    go_wp2_with fail
    refine D1.out.mono ?_; rintro e w' ⟨rfl, rfl⟩
    go_wp2
    go_ret2
    exact Ret2.bad 1 _ _ (Below.refl _ _)
end Go.Proofs.Ytbimhacggbgcoaa
