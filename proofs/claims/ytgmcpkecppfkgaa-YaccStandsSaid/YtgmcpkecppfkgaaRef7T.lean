/- The contract of the document's own tokens of a text that has some, over this program. -/
import Derived.Test.YtgmcpkecppfkgaaRef7O
namespace Go.Proofs.Ytgmcpkecppfkgaa
set_option maxRecDepth 100000
open Go.RowKit

set_option maxHeartbeats 4000000 in
theorem rtoks_any (A : Option Addr) (c : Nat) (L : List Int) (xs : List Tok) (w : World) (hr : RdB w w.heap.size A L) (hl : K.Bytes L) (hc : L.length ≤ c) (hn : L.length ≤ 2000) (hx : toks L = .ok xs) :
    Calls Try.prog 6 #[.slice A L.length c] w (ToksAns L (.ok xs) w) := by
  have HSK := hide (fun (w1 : World) (h : Below w.heap.size w w1) (k : Nat) (hk : k < L.length) (he : (T.piece (L.drop k)).2.2 = 0) => rskip_any A c w.heap.size L k w1 (hr.below h (Nat.le_refl _)) hl hc (by omega) hk he)
  have HON := hide (fun (w1 : World) (h : Below w.heap.size w w1) (k : Nat) (hk : k < L.length) (he : (T.piece (L.drop k)).2.2 = 0) (hx : (T.piece (L.drop k)).1 ≠ 0) => rone_any A c L k w1 (hr.up h) hl hc hn hk he hx)
  have HAT := hide (fun (w1 : World) (h : Below w.heap.size w w1) => rat_in A c w.heap.size L L.length w1 (hr.below h (Nat.le_refl _)) hn (Nat.le_refl _))
  have HFN := hide (fun (k : Nat) (hk : k < L.length) => T.piece_fine (L.drop k) (by rw [List.length_drop]; omega) (hl.drop k))
  have HX := hide hx
  have HB0 : Hid (Below w.heap.size w w) := hide (Below.refl _ _)
  have SC := fun a w m X Y => show (store a (.complex .f64 X Y) m).run Try.prog w = stored Try.prog w a (.complex .f64 X Y) m from run_store _ w a _ m rfl
  clear hr hl hx
  go_enter Try.func6, Try.ntmps6
  go_wp2
  go_loopw [5, 6, 7] (fun v vk vm wr => ∃ (f k m : Nat) (acc : List Tok), vk = .int .i64 k ∧ vm = .int .i64 m ∧ k ≤ L.length ∧ m ≤ 2 ∧ L.length < k + f ∧ acc.length ≤ k ∧ OwnT L wr w.heap.size v acc ∧ Below w.heap.size w wr ∧ scan f (L.drop k) k m acc = .ok xs) (fun _ vk _ _ => L.length - (intOf vk).toNat)
  case atStart => exact ⟨L.length + 1, 0, 0, [], rfl, rfl, by omega, by omega, by omega, by simp, OwnT.nil _ _ _, HB0.out, by have := HX.out; unfold toks at this; simpa using this⟩
  case round =>
    clear HX HB0
    obtain ⟨f, k, m, acc, rfl, rfl, hk, hmk, hf, hacc, ho, hb, hsc⟩ := hrel
    have HO := hide ho
    have HB := hide hb
    have HSC := hide hsc
    have HMK := hide hmk
    obtain ⟨A0, c0, rfl, hq1, hq2⟩ := ho.form
    clear ho hb hsc hmk hq1 hq2
    by_cases hend : L.length ≤ k ∨ 2 ≤ m
    · have hmb := HMK.out
      have hxs : xs = acc := by
        have := HSC.out
        rw [scan_end _ _ _ _ _ (by rw [List.length_drop]; omega)] at this
        injection this with this
        exact this.symm
      subst hxs
      have HATw := hide (HAT.out wr HB.out)
      rw [List.take_length] at HATw
      clear HAT HSK HON HFN HSC
      by_cases hlt : k < L.length
      · have hm2 : ¬ (m : Int) < 2 := by omega
        clear hend
        go_wp2_with fail
        refine (HATw.out).mono ?_; rintro _ w' ⟨rfl, rfl⟩
        go_wp2
        go_ret3
        exact ⟨_, rfl, HO.out, HB.out⟩
      · have hlt2 : ¬ (k : Int) < (L.length : Int) := by omega
        clear hend
        go_wp2_with fail
        refine (HATw.out).mono ?_; rintro _ w' ⟨rfl, rfl⟩
        go_wp2
        go_ret3
        exact ⟨_, rfl, HO.out, HB.out⟩
    · have hlt : k < L.length := by omega
      have hm2 : (m : Int) < 2 := by omega
      obtain ⟨f, rfl⟩ : ∃ f', f = f' + 1 := ⟨f - 1, by omega⟩
      have hne : ¬ ((L.drop k).length = 0 ∨ m = 2) := by rw [List.length_drop]; omega
      have he : (T.piece (L.drop k)).2.2 = 0 := by
        by_cases h : (T.piece (L.drop k)).2.2 = 0
        · exact h
        · have := HSC.out
          rw [scan_bad _ _ _ _ _ hne h] at this
          cases this
      have hso := HSC.out
      rw [scan_on _ _ _ _ _ hne he, List.drop_drop] at hso
      have hfine := HFN.out k hlt
      obtain ⟨h1, h2, h3, _, _, _⟩ := hfine
      obtain ⟨h4, h5, _, _⟩ := h1 he
      rw [List.length_drop] at h5
      have HSKw := hide (HSK.out wr HB.out k hlt he)
      have HONw := hide (HON.out wr HB.out k hlt he)
      clear HSK HON HFN HAT HSC h1 hne hend
      unfold oneV at HONw
      generalize T.piece (L.drop k) = x at *
      obtain ⟨xk, xn, xe⟩ := x
      simp only at he h2 h3 h4 h5
      subst he
      have HSO := hide hso
      clear hso
      by_cases hk0 : xk = 0
      · subst hk0
        have hv : skipV k (0, xn, 0) = .tuple #[.int .i64 ((k + xn : Nat) : Int), .bool true] := rfl
        rw [hv] at HSKw
        have HS2 : Hid (scan f (L.drop (k + xn)) (k + xn) m acc = .ok xs) := hide HSO.out
        have hpos : ¬ ((k + xn : Nat) : Int) < 0 := by omega
        clear hv HSO HONw
        generalize hj : k + xn = j at *
        have HJ := hide hj
        clear hj
        go_wp2_with fail
        refine HSKw.out.mono ?_; rintro _ w' ⟨rfl, rfl⟩
        go_wp2
        go_roundw
        case rel => exact ⟨f, j, m, acc, rfl, rfl, by have := HJ.out; omega, HMK.out, by have := HJ.out; omega, by have := HJ.out; omega, HO.out, HB.out, HS2.out⟩
        case measure => have := HJ.out; simp [intOf]; omega
      · have hv : skipV k (xk, xn, 0) = .tuple #[.int .i64 k, .bool false] := skipV_no hk0
        rw [hv] at HSKw
        have HO1 := hide (HONw.out hk0)
        simp only at HO1
        have HMR : Hid (more acc k (xk, xn, 0) (L.drop k) = acc ++ [⟨xk, ttext xk ((L.drop k).take xn), k⟩]) := hide (by unfold more; rw [if_neg hk0])
        rw [HMR.out] at HSO
        have hpos : ¬ ((k : Nat) : Int) < 0 := by omega
        clear hv HONw HMR hk0
        go_wp2_with fail
        refine HSKw.out.mono ?_; rintro _ w' ⟨rfl, rfl⟩
        go_wp2_with fail
        refine HO1.out.mono ?_; rintro _ w2 ⟨rfl, hb2⟩
        have HB2 := hide (HB.out.trans (hb2.mono HB.out.size))
        have HO2 := hide (HO.out.below hb2 (Nat.le_refl _))
        clear hb2 HO1 HSKw HO HB
        have HCE : Hid (∀ o j u, (tcells L ⟨xk, ttext xk ((L.drop k).take xn), k⟩)[j]? = some u → ((w2.alloc o).alloc (.cells #[.int .i64 xk, .string (K.str (ttext xk ((L.drop k).take xn))), .complex .f64 (Fl.fl (Pl.pos (L.take k)).1) (Fl.fl (Pl.pos (L.take k)).2)] 38)).cell? ⟨w2.heap.size + 1, j, none⟩ = some u) := hide (by
          intro o j u hu
          have e : w2.heap.size + 1 = (w2.alloc o).heap.size := by simp
          rw [e, World.cell?_alloc_new]
          simpa [tcells] using hu)
        have HGW := hide (fun o1 o2 => (HB2.out.alloc HB2.out.size o1).alloc (by have := HB2.out.size; simp; omega) o2)
        rcases hk9 : (xk == 9) with _ | _
        · have HMK2 : Hid (marksOn m (xk, xn, 0) = m) := hide (by unfold marksOn; rw [if_neg (by simpa using hk9)])
          rw [HMK2.out] at HSO
          go_wp2_with (at_builtin; refine apT_arm rfl (.tmp 54) (.tmp 56) _ rfl Try.underlying32 L w.heap.size _ acc rfl ((HO2.out.alloc _).alloc _) _ 1 ⟨xk, ttext xk ((L.drop k).take xn), k⟩ rfl (HCE.out _) (by omega) (by have := HB2.out.size; simp; omega) ?_; intro v3 w3 ho3 hg3)
          have HB3 := hide (below_grownT (HGW.out _ _) ((HO2.out.alloc _).alloc _) hg3 (by have := HB2.out.size; simp; omega))
          have HO3 := hide ho3
          clear ho3 hg3
          go_roundw
          case rel => exact ⟨f, k + xn, m, acc ++ [⟨xk, ttext xk ((L.drop k).take xn), k⟩], by go_num, rfl, by omega, by have := HMK.out; omega, by omega, by simp; omega, HO3.out, HB3.out, HSO.out⟩
          case measure => simp [intOf]; omega
        · have HMK2 : Hid (marksOn m (xk, xn, 0) = m + 1) := hide (by unfold marksOn; rw [if_pos (by simpa using hk9)])
          rw [HMK2.out] at HSO
          go_wp2_with (at_builtin; refine apT_arm rfl (.tmp 54) (.tmp 56) _ rfl Try.underlying32 L w.heap.size _ acc rfl ((HO2.out.alloc _).alloc _) _ 1 ⟨xk, ttext xk ((L.drop k).take xn), k⟩ rfl (HCE.out _) (by omega) (by have := HB2.out.size; simp; omega) ?_; intro v3 w3 ho3 hg3)
          have HB3 := hide (below_grownT (HGW.out _ _) ((HO2.out.alloc _).alloc _) hg3 (by have := HB2.out.size; simp; omega))
          have HO3 := hide ho3
          clear ho3 hg3
          go_roundw
          case rel => exact ⟨f, k + xn, m + 1, acc ++ [⟨xk, ttext xk ((L.drop k).take xn), k⟩], by go_num, by go_num, by omega, by have := HMK.out; omega, by omega, by simp; omega, HO3.out, HB3.out, HSO.out⟩
          case measure => simp [intOf]; omega
end Go.Proofs.Ytgmcpkecppfkgaa
