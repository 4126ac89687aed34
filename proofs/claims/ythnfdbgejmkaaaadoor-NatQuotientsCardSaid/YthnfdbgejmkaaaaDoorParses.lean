/- Contract of nat's Parse over this program: what any text's number is, or why there is none. -/
import Derived.Test.YthnfdbgejmkaaaaDoorParse
namespace Go.Proofs.YthnfdbgejmkaaaaDoor
open Go.RowKit

def parseS (l : List UInt8) : List Int × Int := if isDec l then fitL (numD l) else ([], 3)

theorem numD_mono (a b : List UInt8) : numD a ≤ numD (a ++ b) := by
  rw [numD_append]
  have h : 1 ≤ 10 ^ b.length := Nat.one_le_pow _ _ (by omega)
  have := Nat.mul_le_mul_left (numD a) h
  omega
theorem canon_len_mono {m n : Nat} (h : m ≤ n) : (M.canon m).length ≤ (M.canon n).length := by
  have h1 := (M.canon_length_le (n := n) (k := (M.canon n).length)).1 (Nat.le_refl _)
  exact M.canon_length_le.2 (by omega)
theorem group_num (l : List UInt8) (k n : Nat) (h : k + n ≤ l.length) : ((numD (l.take k) : Int) * p10 n + (numD ((l.drop k).take n) : Int)).toNat = numD (l.take (k + n)) := by
  rw [List.take_add, numD_append, List.length_take, List.length_drop, Nat.min_eq_left (by omega)]
  unfold p10
  omega
theorem isDec_all {l : List UInt8} (h : isDec l = true) : l.all dig = true := by unfold isDec at h; simp only [Bool.and_eq_true] at h; exact h.1

set_option maxHeartbeats 1000000 in
set_option maxRecDepth 100000 in
theorem nparse_any (s : ByteArray) (w : World) (hs : s.size ≤ 9223372036854775807) :
    Calls Tryd.prog 30 #[.string s] w (Ret2 (parseS s.data.toList) w) := by
  have C := isDecimal_any s w hs
  by_cases h1 : isDec s.data.toList = true
  · rw [h1] at C
    have D := hide C
    have hS : parseS s.data.toList = fitL (numD s.data.toList) := by unfold parseS; rw [if_pos h1]
    rw [hS]
    have HA := hide (isDec_all h1)
    have HBL := hide (bytes_len s)
    generalize hl : s.data.toList = l at *
    have HSL := hide hl
    clear C h1 hS hl
    go_enter Tryd.func30, Tryd.ntmps30
    go_wp2_with fail
    refine D.out.mono ?_; rintro e w' ⟨rfl, rfl⟩
    go_wp2_with fail
    go_loopw [0, 4] (fun vs vx wr => ∃ (k : Nat) (s' : ByteArray), k ≤ l.length ∧ vs = .string s' ∧ s'.data.toList = l.drop k ∧ OwnU wr w.heap.size vx (M.canon (numD (l.take k))) ∧ (M.canon (numD (l.take k))).length ≤ 32 ∧ Below w.heap.size w wr) (fun vs _ _ => match vs with | .string s' => s'.size | _ => 0)
    case atStart => exact ⟨0, s, Nat.zero_le _, rfl, HSL.out, by rw [List.take_zero]; exact (by rw [show numD [] = 0 from rfl, M.canon_zero]; exact OwnU.nil _ _), by rw [List.take_zero, show numD [] = 0 from rfl, M.canon_zero]; exact Nat.zero_le _, Below.refl _ _⟩
    case round =>
      rename_i vx
      obtain ⟨k, s', hk, rfl, hd, hown, h32, hbl⟩ := hrel
      have hsz := bytes_len s'
      rw [hd, List.length_drop] at hsz
      have hsn : s'.size ≤ 9223372036854775807 := by have := HBL.out; omega
      obtain ⟨Ax, cx, rfl, hx1, hx2, hx3⟩ := hown.form
      have HD := hide hd
      have HSZ := hide hsz
      clear hd hsz
      by_cases hlt : 0 < s'.size
      · have hstep : ∀ (n : Nat) (t u : ByteArray), n ≤ 9 → 0 < n → n ≤ s'.size → t = s'.extract 0 n → u = s'.extract n s'.size → ∀ W, OwnU W w.heap.size (.slice Ax (M.canon (numD (l.take k))).length cx) (M.canon (numD (l.take k))) → w.heap.size ≤ W.heap.size →
            k + n ≤ l.length ∧ u.data.toList = l.drop (k + n) ∧ u.size = s'.size - n ∧
            Calls Tryd.prog 49 #[.slice Ax (M.canon (numD (l.take k))).length cx, .string t] W (Behind (numD (l.take (k + n))) w.heap.size W) := by
          rintro n t u hn9 hn0 hns rfl rfl W hoW hbW
          have hz := HSZ.out
          have hkn : k + n ≤ l.length := by omega
          have ht : (s'.extract 0 n).data.toList = (l.drop k).take n := by
            rw [Lib.extract_data, HD.out]; simp
          have htl : (s'.extract 0 n).size = n := by rw [← bytes_len, ht, List.length_take, List.length_drop]; omega
          have hu : (s'.extract n s'.size).data.toList = l.drop (k + n) := by
            rw [Lib.extract_data, HD.out, List.drop_drop, List.take_of_length_le (by rw [List.length_drop]; omega)]
          refine ⟨hkn, hu, by rw [← bytes_len, hu, List.length_drop]; omega, ?_⟩
          have hb := behind_any w.heap.size Ax cx (numD (l.take k)) (s'.extract 0 n) W hoW (by rw [ht, List.all_eq_true]; intro x hx; exact List.all_eq_true.1 HA.out x (List.mem_of_mem_drop (List.mem_of_mem_take hx))) (by omega) (by omega) hbW
          rw [ht, htl, group_num l k n hkn] at hb
          exact hb
        have HST := hide hstep
        clear hstep
        obtain ⟨n, hn⟩ : ∃ n : Nat, n = min s'.size 9 := ⟨_, rfl⟩
        have hmn : min (s'.size : Int) 9 = (n : Int) := by omega
        have n1 : n ≤ 9 := by omega
        have n2 : 0 < n := by omega
        have n3 : n ≤ s'.size := by omega
        clear hn
        have ST := HST.out n _ _ n1 n2 n3 rfl rfl
        have HS2 := hide ST
        clear ST
        go_wp2_with fail
        refine ((HS2.out wr hown hbl.size).2.2.2).mono ?_
        rintro e w2 ⟨v2, rfl, ho2, hb2⟩
        obtain ⟨A2, c2, rfl, y1, y2, y3⟩ := ho2.form
        have P1 := (HS2.out wr hown hbl.size).1
        have P2 := hide (HS2.out wr hown hbl.size).2.1
        have P3 := hide (HS2.out wr hown hbl.size).2.2.1
        by_cases hbig : (M.canon (numD (l.take (k + n)))).length ≤ 32
        · have hbw := hbl.trans hb2
          go_wp2
          go_roundw
          case rel => exact ⟨k + n, s'.extract n s'.size, P1, rfl, P2.out, ho2, hbig, hbw⟩
          case measure => have := P3.out; show (s'.extract n s'.size).size < s'.size; omega
        · have hf : fitL (numD l) = ([], 2) := by
            have hmm : (M.canon (numD (l.take (k + n)))).length ≤ (M.canon (numD l)).length := canon_len_mono (by
              have := numD_mono (l.take (k + n)) (l.drop (k + n)); rwa [List.take_append_drop] at this)
            unfold fitL; rw [if_neg (by omega)]
          have HF := hide hf
          have hbw := hbl.trans hb2
          clear hf
          go_wp2
          go_ret2
          rw [HF.out]
          exact Ret2.bad 2 _ _ hbw
      · have hz := HSZ.out
        obtain rfl : k = l.length := by omega
        have hf : fitL (numD l) = (M.canon (numD l), 0) := by rw [List.take_length] at h32; unfold fitL; rw [if_pos h32]
        have HF := hide hf
        rw [List.take_length] at hx1 hx3 h32 ⊢
        clear hf hown
        go_wp2
        go_ret2
        rw [HF.out]
        exact ⟨Ax, cx, rfl, hx1, hx2, hx3, hbl⟩
  · have h1 : isDec s.data.toList = false := by simpa using h1
    have hS : parseS s.data.toList = ([], 3) := by unfold parseS; rw [h1]; rfl
    rw [hS]
    rw [h1] at C
    have D := hide C
    clear C h1 hS
    go_enter Tryd.func30, Tryd.ntmps30
    go_wp2_with fail
    refine D.out.mono ?_; rintro e w' ⟨rfl, rfl⟩
    go_wp2
    go_ret2
    exact Ret2.bad 3 _ _ (Below.refl _ _)
end Go.Proofs.YthnfdbgejmkaaaaDoor
