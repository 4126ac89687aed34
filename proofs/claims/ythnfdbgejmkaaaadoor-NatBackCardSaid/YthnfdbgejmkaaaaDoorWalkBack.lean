/- The walk of NatBack over this program: it answers true, for every list of limbs and every text, and writes nothing that was there. -/
import Derived.Test.YthnfdbgejmkaaaaDoorKit
namespace Go.Proofs.YthnfdbgejmkaaaaDoor
open Go.RowKit

theorem decDigits_all (n : Nat) : (Lib.decDigits n).all dig = true := by
  induction n using Nat.strongRecOn with
  | _ n ih =>
    rw [Lib.decDigits]
    by_cases h : n < 10
    · rw [dif_pos h]
      have : (UInt8.ofNat (48 + n)).toNat = 48 + n := by rw [UInt8.toNat_ofNat']; omega
      simp [dig]; omega
    · rw [dif_neg h, List.all_append, ih (n / 10) (by omega)]
      have : (UInt8.ofNat (48 + n % 10)).toNat = 48 + n % 10 := by rw [UInt8.toNat_ofNat']; omega
      simp [dig]; omega
theorem decDigits_num (n : Nat) : numD (Lib.decDigits n) = n := by
  induction n using Nat.strongRecOn with
  | _ n ih =>
    rw [Lib.decDigits]
    by_cases h : n < 10
    · rw [dif_pos h]
      have : (UInt8.ofNat (48 + n)).toNat = 48 + n := by rw [UInt8.toNat_ofNat']; omega
      show 0 * 10 + ((UInt8.ofNat (48 + n)).toNat - 48) = n
      omega
    · rw [dif_neg h, numD_snoc, ih (n / 10) (by omega)]
      have : (UInt8.ofNat (48 + n % 10)).toNat = 48 + n % 10 := by rw [UInt8.toNat_ofNat']; omega
      omega
theorem decDigits_pos (n : Nat) : (Lib.decDigits n).length ≠ 0 := by
  rw [Lib.decDigits]; split <;> simp
/-- A number that isn't 0 has no nought ahead. -/
theorem decDigits_head {n : Nat} (h : n ≠ 0) : ((Lib.decDigits n).headD 0).toNat ≠ 48 := by
  induction n using Nat.strongRecOn with
  | _ n ih =>
    rw [Lib.decDigits]
    by_cases h10 : n < 10
    · rw [dif_pos h10]
      have : (UInt8.ofNat (48 + n)).toNat = 48 + n := by rw [UInt8.toNat_ofNat']; omega
      show (UInt8.ofNat (48 + n)).toNat ≠ 48
      omega
    · rw [dif_neg h10]
      have hp := decDigits_pos (n / 10)
      have i := ih (n / 10) (by omega) (by omega)
      cases hl : Lib.decDigits (n / 10) with
      | nil => rw [hl] at hp; exact absurd rfl hp
      | cons a r => rw [hl] at i; exact i
theorem decDigits_dec (n : Nat) : isDec (Lib.decDigits n) = true := by
  unfold isDec
  rw [decDigits_all, Bool.true_and]
  by_cases h : n = 0
  · subst h; rw [Lib.decDigits_one (by omega)]; rfl
  · have h1 := decDigits_pos n
    have h2 := decDigits_head h
    by_cases e : (Lib.decDigits n).length = 1
    · simp [e]
    · have : 1 < (Lib.decDigits n).length := by omega
      simp only [Bool.or_eq_true, Bool.and_eq_true, decide_eq_true_eq, bne_iff_ne]
      exact .inr ⟨this, h2⟩
/-- Digits without noughts ahead are the digits of their number. -/
theorem numD_digits {l : List UInt8} (h : isDec l = true) : Lib.decDigits (numD l) = l := by
  have hall := isDec_all h
  have key : ∀ k (l : List UInt8), l.length = k → l.all dig = true → (l.length = 1 ∨ (1 < l.length ∧ (l.headD 0).toNat ≠ 48)) → Lib.decDigits (numD l) = l ∧ (1 < l.length → 1 ≤ numD (l.take (l.length - 1))) := by
    intro k
    induction k with
    | zero => intro l hk _ hh; omega
    | succ k ih =>
      intro l hk ha hh
      rcases List.eq_nil_or_concat l with rfl | ⟨r, c, rfl⟩
      · simp at hk
      · rw [List.concat_eq_append] at *
        rw [List.all_append, Bool.and_eq_true] at ha
        have hc := ha.2
        simp only [List.all_cons, List.all_nil, Bool.and_true, dig, Bool.and_eq_true, decide_eq_true_eq] at hc
        have hcn : UInt8.ofNat (48 + (c.toNat - 48)) = c := by
          rw [show 48 + (c.toNat - 48) = c.toNat by omega]; exact UInt8.ofNat_toNat
        rw [List.length_append, List.length_singleton] at hk hh ⊢
        rw [Nat.add_sub_cancel, List.take_left']
        rotate_left
        · rfl
        cases r with
        | nil =>
          refine ⟨?_, fun h => by simp at h⟩
          show Lib.decDigits (0 * 10 + (c.toNat - 48)) = [c]
          rw [Nat.zero_mul, Nat.zero_add, Lib.decDigits_one (by omega), hcn]
        | cons a r =>
          have hh' : 1 < (a :: r).length + 1 ∧ (((a :: r) ++ [c]).headD 0).toNat ≠ 48 := by
            rcases hh with hh | hh
            · simp at hh
            · exact hh
          have hhead : ((a :: r).headD 0).toNat ≠ 48 := hh'.2
          have hi := ih (a :: r) (by omega) ha.1 (by
            by_cases e : (a :: r).length = 1
            · exact .inl e
            · exact .inr ⟨(by have : (a :: r).length = r.length + 1 := rfl; omega), hhead⟩)
          have hq : 1 ≤ numD (a :: r) := by
            have hda := ha.1
            rw [List.all_cons, Bool.and_eq_true] at hda
            have h1 := hda.1
            simp only [dig, Bool.and_eq_true, decide_eq_true_eq] at h1
            have h2 : a.toNat ≠ 48 := hhead
            rw [numD_cons]
            have h3 : 1 ≤ 10 ^ r.length := Nat.one_le_pow _ _ (by omega)
            have h4 : 1 * 1 ≤ (a.toNat - 48) * 10 ^ r.length := Nat.mul_le_mul (by omega) h3
            omega
          refine ⟨?_, fun _ => hq⟩
          rw [numD_snoc, decDigits_step _ _ hq (by omega), hi.1, hcn]
  have hh : l.length = 1 ∨ (1 < l.length ∧ (l.headD 0).toNat ≠ 48) := by
    unfold isDec at h
    simp only [Bool.and_eq_true, Bool.or_eq_true, beq_iff_eq, decide_eq_true_eq, bne_iff_ne] at h
    exact h.2
  exact (key l.length l rfl hall hh).1

theorem string_mk (s : ByteArray) : (⟨s.data.toList.toArray⟩ : ByteArray) = s := by
  obtain ⟨d⟩ := s; simp
theorem parse_text {xs : List Int} (hx : M.Lim xs) (h : right xs = true) : parseS (textS xs) = (xs, 0) := by
  have hc := canon_of_right hx h
  have hl := right_len h
  have ht : textS xs = Lib.decDigits (M.val xs).toNat := by unfold textS; rw [if_pos h]
  rw [ht]; unfold parseS; rw [if_pos (decDigits_dec _), decDigits_num, fitL_ok (by rw [← hc]; exact hl), ← hc]

set_option maxHeartbeats 4000000 in
set_option maxRecDepth 100000 in
theorem back_walk (A : Option Addr) (c : Nat) (xs : List Int) (s : ByteArray) (w : World) (hr : Rd w w.heap.size A xs) (hx : M.Lim xs) (hc : xs.length ≤ c) (hcm : c ≤ 9223372036854775807) (hs : s.size ≤ 9223372036854775807) (htab : Tab w) :
    Calls Tryd.prog 9 #[.slice A xs.length c, .string s] w fun e w' => e = .returned (.bool true) ∧ Below w.heap.size w w' := by
  have AL := hide (alive_any w htab)
  have HR := hide hr
  have HX := hide hx
  have HT := hide htab
  have RR := hide (fun (W : World) (h : Rd W W.heap.size A xs) => rright_any A c W.heap.size xs W h (by omega))
  clear hr hx htab
  by_cases h1 : right xs = true
  · have H1 := hide h1
    have hl := right_len h1
    clear h1
    by_cases g2 : s.size ≤ 400
    · have PN := hide (fun W : World => nparse_any s W hs)
      have TN := hide (fun (W : World) (h1 : Rd W W.heap.size A xs) (ht : Tab W) => ntext_any A c W.heap.size xs W h1 HX.out hc hcm (Nat.le_refl _) ht)
      have hpt := parse_text HX.out H1.out
      have htl : (textS xs).length ≤ 9223372036854775807 := by
        unfold textS; rw [H1.out, if_pos rfl, Lib.decDigits_length]
        have h2 := (M.canon_length_le (n := (M.val xs).toNat) (k := 32)).1 (by rw [← canon_of_right HX.out H1.out]; exact hl)
        have h3 : M.pw 32 ≤ ((10 ^ (308 + 1) : Nat) : Int) := by unfold M.pw; decide +kernel
        have := nDigits_le (k := 308) (r := (M.val xs).toNat) (by omega)
        omega
      obtain ⟨T, hT⟩ : ∃ T : ByteArray, T = ⟨(textS xs).toArray⟩ := ⟨_, rfl⟩
      have HTT := hide hT
      have PT := hide (fun W : World => by
        have q := nparse_any T W (by rw [hT, ← bytes_len]; simpa using htl)
        rw [show parseS T.data.toList = (xs, 0) by rw [hT]; exact hpt] at q
        exact q)
      clear hT hpt htl
      by_cases hd : isDec s.data.toList = true ∧ (M.canon (numD s.data.toList)).length ≤ 32
      · have hps : parseS s.data.toList = (M.canon (numD s.data.toList), 0) := by unfold parseS; rw [if_pos hd.1, fitL_ok hd.2]
        have hts : textS (M.canon (numD s.data.toList)) = s.data.toList := by rw [textS_canon hd.2]; exact numD_digits hd.1
        have hrz : right (M.canon (numD s.data.toList)) = true := right_canon hd.2
        have hlz := M.lim_canon (numD s.data.toList)
        have hZl := hd.2
        rw [hps] at PN
        generalize M.canon (numD s.data.toList) = Z at *
        have TZ := hide (fun (W : World) (A1 : Option Addr) (c1 : Nat) (h1 : Rd W W.heap.size A1 Z) (ht : Tab W) (e1 : Z.length ≤ c1) (e2 : c1 ≤ 9223372036854775807) => by
          have q := ntext_any A1 c1 W.heap.size Z W h1 hlz e1 e2 (Nat.le_refl _) ht
          rw [hts] at q
          unfold RetS at q
          rw [string_mk] at q
          exact q)
        have RZ := hide (fun (W : World) (A1 : Option Addr) (c1 : Nat) (h1 : Rd W W.heap.size A1 Z) => by
          have q := nright_any A1 c1 W.heap.size Z W h1 (by omega)
          rw [hrz] at q; exact q)
        have hss : (s.toList == s.toList) = true := by simp
        clear hd hps hts hrz hlz
        go_enter Tryd.func9, Tryd.ntmps9
        go_wp2_with fail
        refine AL.out.mono ?_
        rintro e w1 ⟨rfl, b1⟩
        go_wp2_with fail
        have q := RR.out w1 (HR.out.on b1)
        rw [H1.out] at q
        refine q.mono ?_
        rintro e w1' ⟨rfl, rfl⟩
        clear q
        go_wp2_with fail
        refine (TN.out w1 (HR.out.on b1) (HT.out.below b1)).mono ?_
        rintro e w2 ⟨rfl, b2⟩
        have e2 := b1.trans (b2.mono b1.size)
        rw [← HTT.out]
        go_wp2_with fail
        refine (PT.out w2).mono ?_
        rintro e w3 ⟨Ay, cy, rfl, y1, y2, y3, b3⟩
        have e3 := e2.trans (b3.mono e2.size)
        go_wp2_with fail
        refine (PN.out w3).mono ?_
        rintro e w4 ⟨Az, cz, rfl, z1, z2, z3, b4⟩
        have e4 := e3.trans (b4.mono e3.size)
        go_wp2_with fail
        refine (k_same w4 Ay A cy c xs (y3.on b4) (HR.out.on e4) (by omega)).mono ?_
        rintro e w5 ⟨rfl, b5⟩
        have e5 := e4.trans (b5.mono e4.size)
        go_wp2_with fail
        refine (TZ.out w5 Az cz (z3.on b5) (HT.out.below e5) z1 z2).mono ?_
        rintro e w6 ⟨rfl, b6⟩
        have e6 := e5.trans (b6.mono e5.size)
        go_wp2_with fail
        refine (RZ.out w6 Az cz ((z3.on b5).on b6)).mono ?_
        rintro e w7 ⟨rfl, rfl⟩
        go_wp2
        go_ret
        exact ⟨rfl, e6⟩
      · obtain ⟨n, hn, hps⟩ : ∃ n : Int, n ≠ 0 ∧ parseS s.data.toList = ([], n) := by
          unfold parseS
          by_cases e : isDec s.data.toList = true
          · refine ⟨2, by omega, ?_⟩
            rw [if_pos e]; unfold fitL; rw [if_neg (fun h => hd ⟨e, h⟩)]
          · exact ⟨3, by omega, by rw [if_neg e]⟩
        rw [hps] at PN
        have hn0 : (n != 0) = true := by rw [bne_iff_ne]; exact hn
        clear hd hps hn
        go_enter Tryd.func9, Tryd.ntmps9
        go_wp2_with fail
        refine AL.out.mono ?_
        rintro e w1 ⟨rfl, b1⟩
        go_wp2_with fail
        have q := RR.out w1 (HR.out.on b1)
        rw [H1.out] at q
        refine q.mono ?_
        rintro e w1' ⟨rfl, rfl⟩
        clear q
        go_wp2_with fail
        refine (TN.out w1 (HR.out.on b1) (HT.out.below b1)).mono ?_
        rintro e w2 ⟨rfl, b2⟩
        have e2 := b1.trans (b2.mono b1.size)
        rw [← HTT.out]
        go_wp2_with fail
        refine (PT.out w2).mono ?_
        rintro e w3 ⟨Ay, cy, rfl, y1, y2, y3, b3⟩
        have e3 := e2.trans (b3.mono e2.size)
        go_wp2_with fail
        refine (PN.out w3).mono ?_
        rintro e w4 ⟨Az, cz, rfl, z1, z2, z3, b4⟩
        have e4 := e3.trans (b4.mono e3.size)
        go_wp2_with fail
        refine (k_same w4 Ay A cy c xs (y3.on b4) (HR.out.on e4) (by omega)).mono ?_
        rintro e w5 ⟨rfl, b5⟩
        have e5 := e4.trans (b5.mono e4.size)
        go_wp2
        go_ret
        exact ⟨rfl, e5⟩
    · go_enter Tryd.func9, Tryd.ntmps9
      go_wp2_with fail
      refine AL.out.mono ?_
      rintro e w1 ⟨rfl, b1⟩
      go_wp2_with fail
      have q := RR.out w1 (HR.out.on b1)
      rw [H1.out] at q
      refine q.mono ?_
      rintro e w1' ⟨rfl, rfl⟩
      go_wp2
      go_ret
      exact ⟨rfl, b1⟩
  · have h1 : right xs = false := by simpa using h1
    have H1 := hide h1
    clear h1
    go_enter Tryd.func9, Tryd.ntmps9
    go_wp2_with fail
    refine AL.out.mono ?_
    rintro e w1 ⟨rfl, b1⟩
    go_wp2_with fail
    have q := RR.out w1 (HR.out.on b1)
    rw [H1.out] at q
    refine q.mono ?_
    rintro e w1' ⟨rfl, rfl⟩
    go_wp2
    go_ret
    exact ⟨rfl, b1⟩
end Go.Proofs.YthnfdbgejmkaaaaDoor
