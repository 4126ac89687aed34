/- Contract of the document's Text over this program: it answers what nat's does. -/
import Derived.Test.YthnfdbgejmkaaaaDoorText
import Derived.Test.YthnfdbgejmkaaaaDoorRefDiv
namespace Go.Proofs.YthnfdbgejmkaaaaDoor
open Go.RowKit

theorem divS_canon {m d : Nat} (hm : (M.canon m).length ≤ 32) (hd : d ≠ 0) : divS (M.canon m) (d : Int) = (M.canon (m / d), ((m % d : Nat) : Int), 0) := by
  unfold divS
  rw [right_canon hm, M.val_canon, if_pos (by simp; omega)]
  congr 2

set_option maxHeartbeats 2000000 in
set_option maxRecDepth 100000 in
theorem rtext_any (A : Option Addr) (ca B : Nat) (xs : List Int) (w : World) (hra : Rd w B A xs) (hx : M.Lim xs) (hxc : xs.length ≤ ca) (hca : ca ≤ 9223372036854775807) (hB : B ≤ w.heap.size) :
    Calls Tryd.prog 33 #[.slice A xs.length ca] w (RetS (textS xs) w) := by
  have C1 := rright_any A ca B xs w hra (by omega)
  by_cases h1 : right xs = true
  · rw [h1] at C1
    have l1 := right_len h1
    have hcan : xs = M.canon (M.val xs).toNat := M.canon_of_last hx (by
      unfold right at h1; simp at h1
      rcases h1 with h1 | h1
      · exact .inl h1
      · right; simpa [List.getD] using h1.2)
    have hS : textS xs = Lib.decDigits (M.val xs).toNat := by unfold textS; rw [if_pos h1]
    rw [hS]
    generalize (M.val xs).toNat = n at *
    have D1 := hide C1
    by_cases hn0 : n = 0
    · subst hn0
      rw [M.canon_zero] at hcan
      subst hcan
      clear hS C1 h1 hra hx
      go_enter Tryd.func33, Tryd.ntmps33
      go_wp2_with fail
      refine D1.out.mono ?_; rintro e w' ⟨rfl, rfl⟩
      go_wp2
      go_ret
      exact ⟨by rw [Lib.decDigits_one (by omega)]; rfl, Below.refl _ _⟩
    · have hx0 : ((xs.length : Int) == 0) = false := by
        rw [beq_eq_false_iff_ne]; intro e
        rw [hcan] at e
        exact hn0 (M.canon_eq_nil.1 (List.eq_nil_of_length_eq_zero (by omega)))
      have HC := hide hcan
      have HRA := hide hra
      clear hS C1 h1 hra hx hcan
      go_enter Tryd.func33, Tryd.ntmps33
      go_wp2_with fail
      refine D1.out.mono ?_; rintro e w' ⟨rfl, rfl⟩
      go_wp2_with fail
      go_loopw [0, 3] (fun vx vs wr => ∃ (m k : Nat) (A : Option Addr) (c : Nat) (s : ByteArray), vx = .slice A k c ∧ k = (M.canon m).length ∧ vs = .string s ∧ (M.canon m).length ≤ 32 ∧ (M.canon m).length ≤ c ∧ c ≤ 9223372036854775807 ∧ Rd wr wr.heap.size A (M.canon m) ∧ (m = 0 → Lib.decDigits n = s.data.toList) ∧ (m ≠ 0 → Lib.decDigits n = Lib.decDigits m ++ s.data.toList) ∧ s.size ≤ 400 ∧ (m ≠ 0 → s.size + Lib.nDigits m ≤ 400) ∧ Below w.heap.size w wr) (fun _ vs _ => match vs with | .string s => 401 - s.size | _ => 0)
      case atStart =>
        have hn309 : Lib.nDigits n ≤ 309 := by
          have h2 := (M.canon_length_le (n := n) (k := 32)).1 (by rw [← HC.out]; exact l1)
          have h3 : M.pw 32 ≤ ((10 ^ (308 + 1) : Nat) : Int) := by unfold M.pw; decide +kernel
          exact nDigits_le (k := 308) (by omega)
        exact ⟨n, _, A, ca, _, rfl, by rw [← HC.out], rfl, by rw [← HC.out]; exact l1, by rw [← HC.out]; exact hxc, hca, by rw [← HC.out]; exact HRA.out.more hB, fun h => absurd h hn0, fun _ => by simp, (by show 0 ≤ 400; omega), (fun _ => by show 0 + Lib.nDigits n ≤ 400; omega), Below.refl _ _⟩
      case round =>
        obtain ⟨m, k, Ax, c, s, rfl, hk, rfl, h32, hc1, hc2, hr, hz, hnz, hss, hsn, hbl⟩ := hrel
        have HZ := hide hz
        have HNZ := hide hnz
        have HSN := hide hsn
        have HK := hide hk
        have HR := hide hr
        clear hz hnz hk hr hsn
        by_cases hm : m = 0
        · subst hm
          have hk0 : k = 0 := by rw [HK.out, M.canon_zero]; rfl
          subst hk0
          have HF := hide (HZ.out rfl)
          go_wp2
          go_ret
          exact ⟨by rw [HF.out]; rfl, hbl⟩
        · have hk0 : 0 < k := by
            rcases Nat.eq_zero_or_pos k with h | h
            · exact absurd (M.canon_eq_nil.1 (List.eq_nil_of_length_eq_zero (by rw [← HK.out]; exact h))) hm
            · exact h
          have DV := rdiv_any Ax c wr.heap.size 10 (M.canon m) wr HR.out (M.lim_canon m) hc1 hc2 (Nat.le_refl _) (by omega) (by omega)
          rw [show divS (M.canon m) 10 = (M.canon (m / 10), ((m % 10 : Nat) : Int), 0) from divS_canon (d := 10) h32 (by omega), ← HK.out] at DV
          have HDV := hide DV
          have hm10 : m % 10 < 10 := Nat.mod_lt _ (by omega)
          have hq : m / 10 = 0 → Lib.decDigits n = UInt8.ofNat (48 + m % 10) :: s.data.toList := fun h => by
            have h10 : m < 10 := by omega
            rw [HNZ.out hm, Lib.decDigits_one h10, show m % 10 = m by omega]; rfl
          have hq2 : m / 10 ≠ 0 → Lib.decDigits n = Lib.decDigits (m / 10) ++ (UInt8.ofNat (48 + m % 10) :: s.data.toList) := fun h => by
            rw [HNZ.out hm]
            have := decDigits_step (m / 10) (m % 10) (by omega) (by omega)
            rw [show m / 10 * 10 + m % 10 = m by omega] at this
            rw [this, List.append_assoc]; rfl
          have hn1 : m / 10 ≠ 0 → s.size + 1 + Lib.nDigits (m / 10) ≤ 400 := fun h => by
            have := HSN.out hm
            rw [Lib.nDigits_big (by omega)] at this; omega
          have hn2 : s.size + 1 ≤ 400 := by
            have := HSN.out hm
            have h1 : 1 ≤ Lib.nDigits m := by
              by_cases h : m < 10
              · rw [Lib.nDigits_small h]; exact Nat.le_refl _
              · rw [Lib.nDigits_big h]; omega
            omega
          have hl10 : (M.canon (m / 10)).length ≤ 32 := by
            have := canon_len_mono (Nat.div_le_self m 10); omega
          have HQ := hide hq
          have HQ2 := hide hq2
          have HN1 := hide hn1
          generalize hr10 : m % 10 = r at *
          clear hq hq2 hn1 DV
          go_wp2_with fail
          refine HDV.out.mono ?_
          rintro e w2 ⟨A2, c2, rfl, y1, y2, y3, y4⟩
          have hu8 : (UInt8.ofNat (48 + r)).toNat = 48 + r := by rw [UInt8.toNat_ofNat']; omega
          have hq' := HQ.out
          have hq2' := HQ2.out
          generalize hch : UInt8.ofNat (48 + r) = ch at *
          have HQ3 := hide hq'
          have HQ4 := hide hq2'
          have hcv : (convert 59 9 (.slice (some ⟨w2.heap.size, 0, none⟩) 1 1)).run Tryd.prog (w2.alloc (.cells #[.int .u8 (48 + (r : Int))] 5)) = .ok (.string ⟨#[ch]⟩) (w2.alloc (.cells #[.int .u8 (48 + (r : Int))] 5)) := by
            have h := run_convert_bytes_back (P := Tryd.prog) (w2.alloc (.cells #[.int .u8 (48 + (r : Int))] 5)) 59 9 5 ⟨w2.heap.size, 0, none⟩ 1 [ch] Tryd.underlying59 Tryd.underlying5 Tryd.underlying9 (fun j hj => by
              have hj0 : j = 0 := by simpa using hj
              subst hj0
              rw [Lib.add_plain, World.cell?_alloc_new]
              show some (Value.int .u8 (48 + (r : Int))) = some (Value.int .u8 (ch.toNat : Int))
              rw [hu8]; congr 2)
            exact h
          have hb2 := hbl.trans (y4.mono hbl.size)
          have hb3 := hb2.alloc hb2.size (.cells #[.int .u8 (48 + (r : Int))] 5)
          have hsz : ((⟨#[ch]⟩ : ByteArray) ++ s).size = s.size + 1 := by rw [ByteArray.size_append]; show 1 + _ = _; omega
          have hdt : ((⟨#[ch]⟩ : ByteArray) ++ s).data.toList = ch :: s.data.toList := by rw [ByteArray.data_append]; simp
          have y3' := y3.alloc (Nat.le_refl _) (.cells #[.int .u8 (48 + (r : Int))] 5)
          have HSZ := hide hsz
          have HDT := hide hdt
          have HCH := hide hch
          have HU8 := hide hu8
          clear hsz hdt hch hu8 hq' hq2' y3
          go_wp2
          go_roundw
          case rel => exact ⟨m / 10, _, A2, c2, _, rfl, rfl, rfl, hl10, y1, y2, y3'.more (by simp), fun h => by rw [HDT.out]; exact HQ3.out h, fun h => by rw [HDT.out]; exact HQ4.out h, by rw [HSZ.out]; exact hn2, fun h => by rw [HSZ.out]; exact HN1.out h, hb3⟩
          case measure => have := HSZ.out; show 401 - ((⟨#[ch]⟩ : ByteArray) ++ s).size < 401 - s.size; omega
  · have h1 : right xs = false := by simpa using h1
    have hS : textS xs = [] := by unfold textS; rw [h1]; rfl
    rw [hS]
    rw [h1] at C1
    have D1 := hide C1
    clear h1 hS C1 hra
    go_enter Tryd.func33, Tryd.ntmps33
    go_wp2_with fail
    refine D1.out.mono ?_; rintro e w' ⟨rfl, rfl⟩
    go_wp2
    go_ret
    exact ⟨rfl, Below.refl _ _⟩
end Go.Proofs.YthnfdbgejmkaaaaDoor
