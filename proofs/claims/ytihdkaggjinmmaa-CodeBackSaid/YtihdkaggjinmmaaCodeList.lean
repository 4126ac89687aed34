/- Contracts of lists of numbers in bytes over this program: PutList, GetList, and the document's own. -/
import Derived.Test.YtihdkaggjinmmaaCodeRGet
namespace Go.Proofs.Ytihdkaggjinmmaa
open Go.RowKit

/-- What PutList answers. -/
def V.putL (l xs : List Int) : List Int × Nat := if V.fits xs = true then (l ++ V.puts xs, 0) else ([], 1)
def GotEB (r : List Int × Nat) (w : World) (e : Ending) (w' : World) : Prop := ∃ v, e = .returned (.tuple #[v, .int .i64 (r.2 : Int)]) ∧ OwnB w' w.heap.size v r.1 ∧ Below w.heap.size w w'
/-- What GetList answers. -/
def GotLI (r : List Int × Nat × Nat) (w : World) (e : Ending) (w' : World) : Prop := ∃ v, e = .returned (.tuple #[v, .int .i64 (r.2.1 : Int), .int .i64 (r.2.2 : Int)]) ∧ OwnI w' w.heap.size v r.1 ∧ Below w.heap.size w w'

theorem V.fits_take {xs : List Int} {k : Nat} (h : V.fits (xs.take k) = true) (hk : k < xs.length) (hz : V.fit (xs.getD k 0) = true) : V.fits (xs.take (k + 1)) = true := by
  rw [L.take_snoc xs k hk, V.fits_app, h]
  generalize xs.getD k 0 = z at *
  simp [V.fits, hz]
theorem V.all_take {xs : List Int} {k : Nat} (hk : k < xs.length) : V.all (xs.take (k + 1)) = V.all (xs.take k) ++ V.put (xs.getD k 0).toNat := by
  rw [L.take_snoc xs k hk, V.all_snoc]

set_option maxHeartbeats 2000000 in
set_option maxRecDepth 100000 in
theorem putList_any (A A' : Option Addr) (c c' : Nat) (l xs : List Int) (w : World) (hr : RdB w w.heap.size A l) (hi : RdI w w.heap.size A' xs) (hl : l.length ≤ 1000000) (hx : xs.length ≤ 100000) :
    Calls Try.prog 12 #[.slice A l.length c, .slice A' xs.length c'] w (GotEB (V.putL l xs) w) := by
  have HW := hide (show ∀ r : Int, r = ((5 + xs.length : Nat) : Int) → Calls Try.prog 18 #[.slice A l.length c, .int .i64 r] w (GotB l w) from fun r h => by
    rw [h]; exact withRoom_any A c l _ w hr hl (by omega))
  have HF := hide (fun (v : Value) (ys : List Int) (n : Nat) (w1 : World) (ho : OwnB w1 w.heap.size v ys) (hB : w.heap.size ≤ w1.heap.size) (hn : n < 4294967296) (hy : ys.length ≤ 100000000) => behind_any v ys n w.heap.size w1 ho hB hn hy)
  have hR : (V.fits xs = true → V.putL l xs = (l ++ V.puts xs, 0)) ∧ (V.fits xs = false → V.putL l xs = ([], 1)) := ⟨fun h => by unfold V.putL; rw [if_pos h], fun h => by unfold V.putL; rw [if_neg (by rw [h]; simp)]⟩
  have hput := V.put_len xs.length (by omega)
  generalize V.putL l xs = R at *
  have HR := hide hR
  have HI := hide hi
  have HP := hide hput
  clear hr hi hR hput
  go_enter Try.func12, Try.ntmps12
  go_wp2
  go_loop [12] (fun vi => ∃ k : Nat, k ≤ xs.length ∧ vi = .int .i64 k ∧ V.fits (xs.take k) = true) (fun vi => xs.length - (intOf vi).toNat)
  case atStart => exact ⟨0, Nat.zero_le _, rfl, rfl⟩
  case round =>
    obtain ⟨k, hk, rfl, hf⟩ := hrel
    have HFT := hide hf
    clear hf
    by_cases hlt : k < xs.length
    · obtain ⟨g, o, rfl, _, hc⟩ := HI.out (by omega)
      have hcell := hc k hlt
      have HNOT := hide (fun h => HR.out.2 (V.fits_not hlt h))
      have HNEXT := hide (fun h => V.fits_take HFT.out hlt h)
      clear hc HI HF HP
      generalize hz : xs.getD k 0 = z at *
      clear hz
      by_cases h0 : z < 0
      · obtain rfl : R = ([], 1) := HNOT.out (by simp [V.fit]; omega)
        go_wp2
        go_ret2
        exact ⟨_, rfl, OwnB.nil _ _, Below.refl _ _⟩
      · by_cases h1 : 2147483647 < z
        · obtain rfl : R = ([], 1) := HNOT.out (by simp [V.fit]; omega)
          go_wp2
          go_ret2
          exact ⟨_, rfl, OwnB.nil _ _, Below.refl _ _⟩
        · have HN := hide (HNEXT.out (by simp [V.fit]; omega))
          go_wp2
          go_round
          case rel => exact ⟨k + 1, hlt, by go_num, HN.out⟩
          case measure => simp [intOf]; omega
    · obtain rfl : k = xs.length := by omega
      have hfits := HFT.out
      rw [List.take_length] at hfits
      obtain rfl : R = (l ++ V.puts xs, 0) := HR.out.1 hfits
      have HFX := hide hfits
      clear hfits HR
      go_wp2_with fail
      refine (HW.out _ (by omega)).mono ?_; rintro _ w1 ⟨v1, rfl, ho1, hb1⟩
      have B1 := hide hb1
      have O1 := hide ho1
      clear hb1 ho1
      go_wp2_with fail
      refine (HF.out v1 l xs.length w1 O1.out B1.out.size (by omega) (by omega)).mono ?_; rintro _ w2 ⟨v2, rfl, ho2, hb2⟩
      have B2 := hide (B1.out.trans hb2)
      have O2 := hide ho2
      clear hb2 ho2 B1 O1
      go_wp2_with fail
      go_loopw [0, 34] (fun vb vi wr => ∃ k : Nat, k ≤ xs.length ∧ vi = .int .i64 k ∧ OwnB wr w.heap.size vb (l ++ V.put xs.length ++ V.all (xs.take k)) ∧ Below w.heap.size w wr) (fun _ vi _ => xs.length - (intOf vi).toNat)
      case atStart => exact ⟨0, Nat.zero_le _, rfl, by simpa [V.all] using O2.out, B2.out⟩
      case round =>
        obtain ⟨k, hk, rfl, ho, hb⟩ := hrel
        have HO := hide ho
        have HB := hide hb
        clear ho hb O2 B2
        by_cases hlt : k < xs.length
        · obtain ⟨g, o, rfl, hg, hc⟩ := HI.out (by omega)
          have hcell : wr.cell? ⟨g, o + k, none⟩ = some (.int .i64 (xs.getD k 0)) := (HB.out.cell (p := ⟨g, o + k, none⟩) hg).trans (hc k hlt)
          have hz := V.fits_getD HFX.out k
          have HA := hide (V.all_take hlt)
          have hfk : V.fits (xs.take k) = true := by
            unfold V.fits; rw [List.all_eq_true]; intro z hz
            exact List.all_eq_true.1 HFX.out z (List.mem_of_mem_take hz)
          have hln := V.all_len _ hfk
          have HL := hide (show (l ++ V.put xs.length ++ V.all (xs.take k)).length ≤ 100000000 by
            rw [List.length_append, List.length_append]
            rw [List.length_take] at hln
            have := HP.out
            omega)
          clear hc hfk hln
          generalize hzz : xs.getD k 0 = z at *
          obtain ⟨m, rfl⟩ := Int.eq_ofNat_of_zero_le hz.1
          rw [Int.toNat_natCast] at HA
          have hm : m < 2147483648 := by omega
          clear hz hzz
          go_wp2_with fail
          refine (HF.out _ _ m wr HO.out HB.out.size (by omega) HL.out).mono ?_; rintro _ w3 ⟨v3, rfl, ho3, hb3⟩
          go_wp2_with fail
          go_roundw
          case rel => exact ⟨k + 1, hlt, by go_num, by rw [HA.out, ← List.append_assoc]; exact ho3, HB.out.trans hb3⟩
          case measure => simp [intOf]; omega
        · obtain rfl : k = xs.length := by omega
          go_wp2
          go_ret2
          refine ⟨_, rfl, ?_, HB.out⟩
          have := HO.out
          rw [List.take_length, List.append_assoc] at this
          exact this

set_option maxHeartbeats 2000000 in
set_option maxRecDepth 100000 in
theorem rputList_any (A A' : Option Addr) (c c' : Nat) (l xs : List Int) (w : World) (hr : RdB w w.heap.size A l) (hi : RdI w w.heap.size A' xs) (hl : l.length ≤ 100000) (hx : xs.length ≤ 100000) :
    Calls Try.prog 13 #[.slice A l.length c, .slice A' xs.length c'] w (GotEB (V.putL l xs) w) := by
  have HF0 := hide (rput_any A c l xs.length w hr (by omega) (by omega))
  have HF := hide (fun (A : Option Addr) (c : Nat) (ys : List Int) (n : Nat) (w1 : World) (hr : RdB w1 w1.heap.size A ys) (hn : n < 4294967296) (hy : ys.length ≤ 1000000) => rput_any A c ys n w1 hr hn hy)
  have hR : (V.fits xs = true → V.putL l xs = (l ++ V.puts xs, 0)) ∧ (V.fits xs = false → V.putL l xs = ([], 1)) := ⟨fun h => by unfold V.putL; rw [if_pos h], fun h => by unfold V.putL; rw [if_neg (by rw [h]; simp)]⟩
  have hput := V.put_len xs.length (by omega)
  generalize V.putL l xs = R at *
  have HR := hide hR
  have HI := hide hi
  have HP := hide hput
  clear hr hi hR hput
  go_enter Try.func13, Try.ntmps13
  go_wp2_with fail
  refine HF0.out.mono ?_; rintro _ w1 ⟨v1, rfl, ho1, hb1⟩
  have B1 := hide hb1
  have O1 := hide ho1
  clear hb1 ho1
  go_wp2_with fail
  go_loopw [6, 7] (fun vb vi wr => ∃ k : Nat, k ≤ xs.length ∧ vi = .int .i64 k ∧ OwnB wr w.heap.size vb (l ++ V.put xs.length ++ V.all (xs.take k)) ∧ Below w.heap.size w wr ∧ V.fits (xs.take k) = true) (fun _ vi _ => xs.length - (intOf vi).toNat)
  case atStart => exact ⟨0, Nat.zero_le _, rfl, by simpa [V.all] using O1.out, B1.out, rfl⟩
  case round =>
    obtain ⟨k, hk, rfl, ho, hb, hf⟩ := hrel
    have HO := hide ho
    have HB := hide hb
    have HFT := hide hf
    clear ho hb hf O1 B1
    by_cases hlt : k < xs.length
    · obtain ⟨g, o, rfl, hg, hc⟩ := HI.out (by omega)
      have hcell : wr.cell? ⟨g, o + k, none⟩ = some (.int .i64 (xs.getD k 0)) := (HB.out.cell (p := ⟨g, o + k, none⟩) hg).trans (hc k hlt)
      have HNOT := hide (fun h => HR.out.2 (V.fits_not hlt h))
      have HNEXT := hide (fun h => V.fits_take HFT.out hlt h)
      have HA := hide (show l ++ V.put xs.length ++ V.all (xs.take (k + 1)) = (l ++ V.put xs.length ++ V.all (xs.take k)) ++ V.put (xs.getD k 0).toNat by rw [V.all_take hlt, List.append_assoc _ (V.all (xs.take k))])
      have hln := V.all_len _ HFT.out
      have HL := hide (show (l ++ V.put xs.length ++ V.all (xs.take k)).length ≤ 1000000 by
        rw [List.length_append, List.length_append]
        rw [List.length_take] at hln
        have := HP.out
        omega)
      clear hc hln
      generalize l ++ V.put xs.length ++ V.all (xs.take k) = ys at *
      generalize hz : xs.getD k 0 = z at *
      clear hz
      by_cases h0 : z < 0
      · obtain rfl : R = ([], 1) := HNOT.out (by simp [V.fit]; omega)
        go_wp2
        go_ret2
        exact ⟨_, rfl, OwnB.nil _ _, HB.out⟩
      · by_cases h1 : 2147483648 ≤ z
        · obtain rfl : R = ([], 1) := HNOT.out (by simp [V.fit]; omega)
          go_wp2
          go_ret2
          exact ⟨_, rfl, OwnB.nil _ _, HB.out⟩
        · have HN := hide (HNEXT.out (by simp [V.fit]; omega))
          obtain ⟨m, rfl⟩ := Int.eq_ofNat_of_zero_le (by omega : 0 ≤ z)
          rw [Int.toNat_natCast] at HA
          have hm : m < 2147483648 := by omega
          obtain ⟨A2, c2, rfl, _, _, hr2⟩ := HO.out.form
          have R2 := hide hr2
          clear hr2
          go_wp2_with fail
          refine (HF.out A2 c2 ys m wr R2.out (by omega) HL.out).mono ?_; rintro _ w3 ⟨v3, rfl, ho3, hb3⟩
          go_wp2_with fail
          go_roundw
          case rel => exact ⟨k + 1, hlt, by go_num, by rw [HA.out]; exact ho3.mono HB.out.size, HB.out.trans (hb3.mono HB.out.size), HN.out⟩
          case measure => simp [intOf]; omega
    · obtain rfl : k = xs.length := by omega
      have hfits := HFT.out
      rw [List.take_length] at hfits
      obtain rfl : R = (l ++ V.puts xs, 0) := HR.out.1 hfits
      clear hfits HR
      go_wp2
      go_ret2
      refine ⟨_, rfl, ?_, HB.out⟩
      have := HO.out
      rw [List.take_length, List.append_assoc] at this
      exact this
end Go.Proofs.Ytihdkaggjinmmaa
