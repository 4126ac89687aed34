/- The number of a try's lowest bits, by the code (lowBits) and by the document (try), over this program. -/
import Derived.Test.YtbimhacggbgcoaaDraw
namespace Go.Proofs.Ytbimhacggbgcoaa
open Go.RowKit

/-- Of the last word the lowest bits alone. -/
def maskS (k : Nat) (ws : List Int) : List Int := ws.set (ws.length - 1) (ws.getD (ws.length - 1) 0 % 2 ^ (k - 32 * (ws.length - 1)))
/-- A try's number. -/
def lowS (k : Nat) (ws : List Int) : List Int := M.trim (maskS k ws)

theorem maskS_len (k : Nat) (ws : List Int) : (maskS k ws).length = ws.length := by unfold maskS; rw [List.length_set]
theorem two_pos (e : Nat) : (0 : Int) < 2 ^ e := Int.pow_pos (by omega)
theorem and_u32 (a b : Nat) (ha : a < 4294967296) (hb : b < 4294967296) : bits .and .u32 (a : Int) (b : Int) = ((a &&& b : Nat) : Int) := by
  have hx : a &&& b < 2 ^ 32 := Nat.and_lt_two_pow _ (by omega)
  have h1 : (BitVec.ofInt 32 (a : Int)).toNat = a := by
    rw [BitVec.ofInt_natCast, BitVec.toNat_ofNat]; exact Nat.mod_eq_of_lt (by omega)
  have h2 : (BitVec.ofInt 32 (b : Int)).toNat = b := by
    rw [BitVec.ofInt_natCast, BitVec.toNat_ofNat]; exact Nat.mod_eq_of_lt (by omega)
  show IntKind.u32.wrap ((BitVec.ofInt 32 (a : Int) &&& BitVec.ofInt 32 (b : Int)).toNat : Int) = _
  rw [BitVec.toNat_and, h1, h2, IntKind.wrap_u32]
  omega

/-- A number's lowest bits. -/
theorem and_low (x : Int) (j : Nat) (x0 : 0 ≤ x) (x1 : x < 4294967296) (hj : j < 32) : bits BinOp.and IntKind.u32 x ((2 ^ (32 - (32 - j)) - 1) % 4294967296) = x % 2 ^ j := by
  obtain ⟨n, rfl⟩ := Int.eq_ofNat_of_zero_le x0
  have hp : 2 ^ j < 2 ^ 32 := Nat.pow_lt_pow_right (by omega) hj
  have h0 : 0 < 2 ^ j := Nat.pow_pos (by omega)
  have e : ((2 : Int) ^ (32 - (32 - j)) - 1) % 4294967296 = ((2 ^ j - 1 : Nat) : Int) := by
    rw [show 32 - (32 - j) = j by omega, Int.emod_eq_of_lt]
    · rw [Int.natCast_sub (by omega)]; simp
    · have : (0 : Int) < 2 ^ j := two_pos j
      omega
    · have : ((2 ^ j : Nat) : Int) < 4294967296 := by omega
      simp at this; omega
  rw [e, and_u32 n _ (by omega) (by omega), Nat.and_two_pow_sub_one_eq_mod]
  simp

theorem maskS_lim {k : Nat} {ws : List Int} (h : M.Lim ws) : M.Lim (maskS k ws) := by
  unfold maskS
  have b := h.getD (ws.length - 1)
  have p := two_pos (k - 32 * (ws.length - 1))
  have h1 := Int.emod_nonneg (ws.getD (ws.length - 1) 0) (by omega : (2 : Int) ^ (k - 32 * (ws.length - 1)) ≠ 0)
  have h2 : ws.getD (ws.length - 1) 0 % 2 ^ (k - 32 * (ws.length - 1)) ≤ ws.getD (ws.length - 1) 0 := by
    have := Int.emod_add_mul_ediv (ws.getD (ws.length - 1) 0) (2 ^ (k - 32 * (ws.length - 1)))
    have h3 := Int.ediv_nonneg b.1 (by omega : 0 ≤ (2 : Int) ^ (k - 32 * (ws.length - 1)))
    have := Int.mul_nonneg (by omega : 0 ≤ (2 : Int) ^ (k - 32 * (ws.length - 1))) h3
    omega
  exact h.set _ h1 (by omega)
theorem maskS_full {k : Nat} {ws : List Int} (h : M.Lim ws) (hk : k = 32 * ws.length) : maskS k ws = ws := by
  unfold maskS
  by_cases h0 : ws.length = 0
  · rw [List.eq_nil_of_length_eq_zero h0]; rfl
  · have b := h.getD (ws.length - 1)
    rw [show k - 32 * (ws.length - 1) = 32 by omega, show (2 : Int) ^ 32 = 4294967296 by decide, Int.emod_eq_of_lt b.1 b.2]
    rw [M.gd_lt (by omega)]; exact List.set_getElem_self _

set_option maxHeartbeats 400000 in
set_option maxRecDepth 100000 in
theorem clone32_any (A : Option Addr) (c B : Nat) (zs : List Int) (w : World) (hr : Rd w B A zs) (_hl : zs.length ≤ 1000000000) (hB : B ≤ w.heap.size) :
    Calls Try.prog 28 #[.slice A zs.length c] w (GotO zs w) := by
  have hr1 := hide (hr.alloc hB (.cells #[] 34))
  have heq := fun W => Lib.run_eql_slice_nil (P := Try.prog) W 22 34 A zs.length c 0 0 Try.underlying22
  rcases A with _ | ad
  · have hz : zs = [] := by
      rcases Nat.eq_zero_or_pos zs.length with h0 | h0
      · exact List.eq_nil_of_length_eq_zero h0
      · obtain ⟨g, o', h, _⟩ := hr (by omega); cases h
    subst hz
    have heq' := fun W => Lib.run_eql_slice_nil (P := Try.prog) W 22 34 none 0 c 0 0 Try.underlying22
    clear hr heq
    go_enter Try.func28, Try.ntmps28
    go_wp2
    go_ret
    exact ⟨_, rfl, OwnU.nil _ _, Below.refl _ _⟩
  · clear hr
    go_enter Try.func28, Try.ntmps28
    go_wp2_with (at_builtin; refine apn_arm rfl (.tmp 5) (.tmp 6) _ rfl Try.underlying22 w.heap.size _ [] rfl (own_empty w) B zs.length c (some ad) zs rfl rfl hr1.out (by simp; omega) (by simp) ?_; intro v' w' h1 h2)
    go_ret
    exact ⟨_, rfl, h1, below_grown ((Below.refl _ _).alloc (Nat.le_refl _) _) (own_empty w) h2 (by simp)⟩

/-- What is left when the noughts at the end are left out: a part of what was there. -/
theorem low_fin (AA : Option Addr) (cc : Nat) (ms : List Int) (w w2 : World) (hr : Rd w2 w2.heap.size AA ms) (hl : ms.length ≤ cc) (hc : cc ≤ 9223372036854775807) (hb : Below w.heap.size w w2) (k : Nat) (hk : k ≤ ms.length) (ht : M.trim ms = ms.take k) :
    Ret1 (M.trim ms) w (.returned (.slice AA k cc)) w2 := by
  have h : (M.trim ms).length = k := by rw [ht, List.length_take, Nat.min_eq_left hk]
  exact ⟨AA, cc, by rw [h], by omega, hc, by rw [ht]; exact hr.take k, hb⟩

set_option maxHeartbeats 1000000 in
theorem lowBits_any (A : Option Addr) (c k : Nat) (ws : List Int) (w : World) (hr : Rd w w.heap.size A ws) (hw : M.Lim ws) (hk : k ≤ 1024) (hn : ws.length = (k + 31) / 32) :
    Calls Try.prog 17 #[.slice A ws.length c, .int .i64 k] w (Ret1 (lowS k ws) w) := by
  have CL := hide (clone32_any A c w.heap.size ws w hr (by omega) (Nat.le_refl _))
  have HN := hide hn
  have hl : ws.length ≤ 32 := by omega
  clear hr hn
  go_enter Try.func17, Try.ntmps17
  go_wp2_with fail
  refine CL.out.mono ?_; rintro e w1 ⟨v, rfl, ho, hb⟩
  rcases UM.of_own ho with ⟨rfl, rfl⟩ | ⟨g, c1, post, rfl, hc1, hc2, hg, hum⟩
  · obtain rfl : k = 0 := by have := HN.out; simp at this; omega
    obtain ⟨ms, hms⟩ : ∃ ms : List Int, ms = [] := ⟨_, rfl⟩
    obtain ⟨L, hL⟩ : ∃ L : Nat, L = 0 := ⟨_, rfl⟩
    have HLM : Hid (ms.length = 0) := by show ms.length = 0; rw [hms]; rfl
    have HRD : Hid (Rd w1 w1.heap.size none ms) := by show Rd w1 w1.heap.size none ms; rw [hms]; exact Rd.nil _ _ _
    have FIN : Hid (∀ k' : Nat, k' ≤ ms.length → M.trim ms = ms.take k' → Ret1 (lowS 0 []) w (.returned (.slice none k' 0)) w1) := by
      intro k' h1 h2
      have := low_fin none 0 ms w w1 HRD.out (by have := HLM.out; omega) (by omega) hb k' h1 h2
      have e : lowS 0 [] = M.trim ms := by rw [hms]; rfl
      rw [e]; exact this
    clear hms ho
    go_wp2
    go_loop [5] (fun v => v = .slice none 0 0) (fun _ => 0)
    case atStart => rfl
    case round =>
      subst hrel
      go_wp2
      go_ret
      exact FIN.out 0 (Nat.zero_le _) (by have := HLM.out; rw [List.eq_nil_of_length_eq_zero this]; rfl)
  · obtain ⟨AA, hAA⟩ : ∃ AA : Option Addr, AA = some ⟨g, 0, none⟩ := ⟨_, rfl⟩
    obtain ⟨cc, hcc⟩ : ∃ cc : Nat, cc = c1 := ⟨_, rfl⟩
    by_cases h32 : k = 32 * ws.length
    · obtain ⟨L, hL⟩ : ∃ L : Nat, L = ws.length := ⟨_, rfl⟩
      obtain ⟨ms, hms⟩ : ∃ ms : List Int, ms = maskS k ws := ⟨_, rfl⟩
      have hmw : ms = ws := by rw [hms]; exact maskS_full hw h32
      have HLM : Hid (ms.length = L) := by show ms.length = L; rw [hmw, hL]
      have HRD : Hid (Rd w1 w1.heap.size AA ms) := by show Rd w1 w1.heap.size AA ms; rw [hmw, hAA]; exact hum.rd hum.lt
      have FIN : Hid (∀ k' : Nat, k' ≤ ms.length → M.trim ms = ms.take k' → Ret1 (lowS k ws) w (.returned (.slice AA k' cc)) w1) := by
        intro k' h1 h2
        have := low_fin AA cc ms w w1 HRD.out (by rw [hmw, hcc]; omega) (by rw [hcc]; unfold maxLen at hc2; omega) hb k' h1 h2
        have e : lowS k ws = M.trim ms := by rw [hms]; rfl
        rw [e]; exact this
      have hov : ¬ 0 < 32 * (L : Int) - (k : Int) := by omega
      have hk2 : k ≤ 1024 := hk
      rw [← hAA, ← hcc, ← hL]
      have hl2 : L ≤ 32 := by omega
      have hl3 : L ≤ cc := by omega
      have hl4 : cc ≤ 9223372036854775807 := by unfold maxLen at hc2; omega
      clear hms ho hum hAA hcc hc1 hc2 hmw h32 hL hl HN hw
      go_wp2
      go_loop [5] (fun v => ∃ k : Nat, k ≤ ms.length ∧ v = .slice AA k cc ∧ M.trim (ms.take k) = M.trim ms) (fun v => match v with | .slice _ n _ => n | _ => 0)
      case atStart => exact ⟨L, Nat.le_of_eq HLM.out.symm, rfl, by rw [← HLM.out, List.take_length]⟩
      case round =>
        obtain ⟨k', hk', rfl, ht⟩ := hrel
        have HT := hide ht; clear ht
        by_cases h0 : k' = 0
        · subst h0
          go_wp2
          go_ret
          exact FIN.out 0 (by omega) (by rw [← HT.out]; rfl)
        · obtain ⟨i, rfl⟩ : ∃ i, k' = i + 1 := ⟨k' - 1, by omega⟩
          obtain ⟨g', o', hAA', _, hc'⟩ := HRD.out (by omega)
          have hci := hc' i (by omega)
          have hi32 : i < 32 := by have := HLM.out; omega
          have hi33 : (i : Int) < 32 := by omega
          have hi34 : i + 1 ≤ cc := by have := HLM.out; omega
          clear hc' h0
          subst hAA'
          by_cases hz : ms.getD i 0 = 0
          · have HZ := hide (M.trim_take_zero (by omega) hz)
            rw [hz] at hci
            clear hz
            go_wp2
            go_round
            case rel => exact ⟨i, by omega, rfl, by rw [← HZ.out, HT.out]⟩
            case measure => simp
          · have HZ := hide (M.trim_take_stop (by omega) hz)
            have hz' : (ms.getD i 0 == 0) = false := by simpa using hz
            clear hz
            generalize ms.getD i 0 = z at *
            go_wp2
            go_ret
            exact FIN.out (i + 1) (by omega) (by rw [← HT.out, HZ.out])
    · obtain ⟨n, hn⟩ : ∃ n, ws.length = n + 1 := ⟨ws.length - 1, by have := HN.out; omega⟩
      obtain ⟨j, hj⟩ : ∃ j, k = 32 * n + j ∧ 0 < j ∧ j < 32 := ⟨k - 32 * n, by have := HN.out; omega, by have := HN.out; omega, by have := HN.out; omega⟩
      obtain ⟨rfl, j0, j1⟩ := hj
      have HL := hide hn
      have hw1 := hw.getD n
      rw [hn] at hc1 hl ⊢
      have hcell := hum.mid (o := 0) rfl n (by omega)
      have hfr := hum.frozen n
      rw [Nat.zero_add] at hcell
      clear ho hn
      generalize hX : ws.getD n 0 = x at *
      have HX := hide hX
      have HAA := hide hAA
      have HCC := hide hcc
      clear hX hAA hcc
      go_wp2_with fail
      rw [show 32 * ((n : Int) + 1) - (32 * (n : Int) + (j : Int)) = 32 - (j : Int) by omega]
      go_region
      rw [and_low x j hw1.1 hw1.2 j1]
      obtain ⟨w2, hw2⟩ : ∃ w2 : World, w2 = (w1.setCell ⟨g, n, none⟩ (.int .u32 (x % 2 ^ j))).drew := ⟨_, rfl⟩
      obtain ⟨ms, hms⟩ : ∃ ms : List Int, ms = maskS (32 * n + j) ws := ⟨_, rfl⟩
      obtain ⟨L, hL⟩ : ∃ L : Nat, L = n + 1 := ⟨_, rfl⟩
      have hms2 : ms = ws.set n (x % 2 ^ j) := by
        rw [hms]; unfold maskS
        rw [HL.out, Nat.add_sub_cancel, HX.out, show 32 * n + j - 32 * n = j by omega]
      have hum2 : UM w2 g [] ms post := by
        rw [hw2, hms2]
        have := hum.mid_set (o := 0) rfl n (x % 2 ^ j) (by have := HL.out; omega)
        rw [Nat.zero_add] at this; exact this
      have HLM : Hid (ms.length = L) := by show ms.length = L; rw [hms2, List.length_set, hL]; exact HL.out
      have HRD : Hid (Rd w2 w2.heap.size AA ms) := by show Rd w2 w2.heap.size AA ms; rw [HAA.out]; exact hum2.rd hum2.lt
      have hb2 : Below w.heap.size w w2 := by
        rw [hw2]
        exact below_only hb (only_drewN (only_set (World.grownBy.refl _ _) n _) 1) hg hb.size
      have FIN : Hid (∀ k' : Nat, k' ≤ ms.length → M.trim ms = ms.take k' → Ret1 (lowS (32 * n + j) ws) w (.returned (.slice AA k' cc)) w2) := by
        intro k' h1 h2
        have := low_fin AA cc ms w w2 HRD.out (by have := HLM.out; rw [HCC.out]; omega) (by rw [HCC.out]; unfold maxLen at hc2; omega) hb2 k' h1 h2
        have e : lowS (32 * n + j) ws = M.trim ms := by rw [hms]; rfl
        rw [e]; exact this
      rw [← hw2, ← HAA.out, ← HCC.out, ← hL]
      have hl2 : L ≤ 32 := by omega
      have hl3 : L ≤ cc := by have := HCC.out; omega
      have hl4 : cc ≤ 9223372036854775807 := by have := HCC.out; unfold maxLen at hc2; omega
      clear hms hms2 hum hum2 hc1 hc2 HL HN hw hw2 hcell hfr HX HAA HCC hL hl
      go_wp2
      go_loop [5] (fun v => ∃ k : Nat, k ≤ ms.length ∧ v = .slice AA k cc ∧ M.trim (ms.take k) = M.trim ms) (fun v => match v with | .slice _ n _ => n | _ => 0)
      case atStart => exact ⟨L, Nat.le_of_eq HLM.out.symm, rfl, by rw [← HLM.out, List.take_length]⟩
      case round =>
        obtain ⟨k', hk', rfl, ht⟩ := hrel
        have HT := hide ht; clear ht
        by_cases h0 : k' = 0
        · subst h0
          go_wp2
          go_ret
          exact FIN.out 0 (by omega) (by rw [← HT.out]; rfl)
        · obtain ⟨i, rfl⟩ : ∃ i, k' = i + 1 := ⟨k' - 1, by omega⟩
          obtain ⟨g', o', hAA', _, hc'⟩ := HRD.out (by omega)
          have hci := hc' i (by omega)
          have hi32 : i < 32 := by have := HLM.out; omega
          have hi33 : (i : Int) < 32 := by omega
          have hi34 : i + 1 ≤ cc := by have := HLM.out; omega
          clear hc' h0
          subst hAA'
          by_cases hz : ms.getD i 0 = 0
          · have HZ := hide (M.trim_take_zero (by omega) hz)
            rw [hz] at hci
            clear hz
            go_wp2
            go_round
            case rel => exact ⟨i, by omega, rfl, by rw [← HZ.out, HT.out]⟩
            case measure => simp
          · have HZ := hide (M.trim_take_stop (by omega) hz)
            have hz' : (ms.getD i 0 == 0) = false := by simpa using hz
            clear hz
            generalize ms.getD i 0 = z at *
            go_wp2
            go_ret
            exact FIN.out (i + 1) (by omega) (by rw [← HT.out, HZ.out])

end Go.Proofs.Ytbimhacggbgcoaa
