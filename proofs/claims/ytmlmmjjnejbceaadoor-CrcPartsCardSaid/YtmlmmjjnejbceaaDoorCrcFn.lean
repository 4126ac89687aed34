/- Contracts of crc.Sum, told, Frame and Open over this program. -/
import Derived.Test.YtmlmmjjnejbceaaDoorCrcLow
namespace Go.Proofs.YtmlmmjjnejbceaaDoor
open Go.RowKit

theorem RdB.drop {w : World} {B : Nat} {g o : Nat} {zs : List Int} (h : RdB w B (some ⟨g, o, none⟩) zs) (k : Nat) : RdB w B (some ⟨g, o + k, none⟩) (zs.drop k) := fun hn => by
  have hl : (zs.drop k).length = zs.length - k := by rw [List.length_drop]
  obtain ⟨g', o', e, hg, hc⟩ := h (by omega)
  injection e with e; injection e with e1 e2
  subst e1 e2
  refine ⟨g, o + k, rfl, hg, fun j hj => ?_⟩
  rw [show o + k + j = o + (k + j) by omega, hc (k + j) (by omega), L.gd_lt hj, L.gd_lt (by omega : k + j < zs.length), List.getElem_drop]

namespace K
theorem num_snoc : ∀ (l : List Int) (z : Int), num (l ++ [z]) = num l + 256 ^ l.length * z.toNat
  | [], z => by show z.toNat + 256 * 0 = 0 + 1 * z.toNat; omega
  | a :: r, z => by
    show a.toNat + 256 * num (r ++ [z]) = a.toNat + 256 * num r + 256 ^ (r.length + 1) * z.toNat
    rw [num_snoc r z, Nat.pow_succ, Nat.mul_add, Nat.mul_comm (256 ^ r.length) 256, Nat.mul_assoc]; omega
theorem num_or {l : List Int} (h : Bytes l) (z : Nat) : num l ||| 2 ^ (8 * l.length) * z = num (l ++ [(z : Int)]) := by
  have h1 := num_lt h
  rw [show (256 : Nat) = 2 ^ 8 from rfl, ← Nat.pow_mul] at h1
  rw [num_snoc, Int.toNat_natCast, show (256 : Nat) = 2 ^ 8 from rfl, ← Nat.pow_mul, Nat.add_comm, Nat.two_pow_add_eq_or_of_lt h1, Nat.or_comm]
theorem more_lt' (l : List Int) : sum l < 4294967296 := more_lt 0 l
end K

theorem sum_any (A : Option Addr) (c B : Nat) (l : List Int) (w : World) (hr : RdB w B A l) (hl : K.Bytes l) (hn : l.length ≤ 9223372036854775807) (ht : Fours w) :
    Calls Tryd.prog 8 #[.slice A l.length c] w fun e w' => e = .returned (.int .u32 (K.sum l)) ∧ w' = w := by
  have H := hide (show Calls Tryd.prog 10 #[.int .u32 0, .slice A l.length c] w _ from more_any 0 A c B l w (by omega) hr hl hn ht)
  clear hr hl hn ht
  go_enter Tryd.func8, Tryd.ntmps8
  go_wp2_with fail
  refine H.out.mono ?_; rintro _ _ ⟨rfl, rfl⟩
  go_wp2
  go_ret
  exact ⟨rfl, rfl⟩

set_option maxHeartbeats 1000000 in
theorem told_any (A : Option Addr) (c B : Nat) (l : List Int) (w : World) (hr : RdB w B A l) (hl : K.Bytes l) (hn : l.length = 4) :
    Calls Tryd.prog 16 #[.slice A l.length c] w fun e w' => e = .returned (.int .u32 (K.num l)) ∧ w' = w := by
  go_enter Tryd.func16, Tryd.ntmps16
  go_wp2
  go_loop [8, 3] (fun vi vs => ∃ (k : Nat), k ≤ l.length ∧ vi = .int .i64 k ∧ vs = .int .u32 (K.num (l.take k))) (fun vi _ => l.length - (intOf vi).toNat)
  case atStart => exact ⟨0, by omega, rfl, rfl⟩
  case round =>
    obtain ⟨k, hk, rfl, rfl⟩ := hrel
    by_cases hlt : k < l.length
    · obtain ⟨g, o, rfl, _, hc⟩ := hr (by omega)
      have hcell := hc k hlt
      have hz := hl.getD k
      have hst := K.num_or (hl.take k) (l.getD k 0).toNat
      rw [Int.toNat_of_nonneg hz.1, ← L.take_snoc l k hlt, List.length_take, Nat.min_eq_left hk] at hst
      have hlt1 := K.num_lt (hl.take k)
      rw [List.length_take, Nat.min_eq_left hk] at hlt1
      have hlt2 : K.num (l.take k) < 4294967296 := Nat.lt_of_lt_of_le hlt1 (Nat.le_trans (Nat.pow_le_pow_right (by decide) (show k ≤ 4 by omega)) (by decide))
      generalize l.getD k 0 = z at *
      generalize K.num (l.take k) = r at *
      obtain ⟨b, rfl⟩ := Int.eq_ofNat_of_zero_le hz.1
      rw [Int.toNat_natCast] at hst
      have hb : b < 256 := by omega
      clear hc hz hlt1
      rw [hn] at hlt
      have e : ∀ (d : Nat) (x : Int), d = 2 ^ (8 * k) → d * b < 4294967296 → x = ((d * b : Nat) : Int) → bits .or .u32 (r : Int) x = (K.num (l.take (k + 1)) : Int) := fun d x h1 h2 h3 => by
        rw [h3, u32_or_nat r (d * b) hlt2 h2, h1, hst]
      have E := hide e
      clear hst e hlt2
      obtain rfl | rfl | rfl | rfl : k = 0 ∨ k = 1 ∨ k = 2 ∨ k = 3 := by omega
      · rw [Nat.add_zero] at hcell
        go_wp2
        go_round
        case rel => exact ⟨1, by omega, by go_num, congrArg (Value.int .u32) (E.out 1 _ (by decide) (by omega) (by omega))⟩
        case measure => simp [intOf]; omega
      · go_wp2
        go_round
        case rel => exact ⟨2, by omega, by go_num, congrArg (Value.int .u32) (E.out 256 _ (by decide) (by omega) (by omega))⟩
        case measure => simp [intOf]; omega
      · go_wp2
        go_round
        case rel => exact ⟨3, by omega, by go_num, congrArg (Value.int .u32) (E.out 65536 _ (by decide) (by omega) (by omega))⟩
        case measure => simp [intOf]; omega
      · go_wp2
        go_round
        case rel => exact ⟨4, by omega, by go_num, congrArg (Value.int .u32) (E.out 16777216 _ (by decide) (by omega) (by omega))⟩
        case measure => simp [intOf]; omega
    · obtain rfl : k = l.length := by omega
      rw [List.take_length]
      go_wp2
      go_ret
      exact ⟨rfl, rfl⟩

theorem K.tail_len (s : Nat) : (K.tail s).length = 4 := rfl
theorem K.tail_take (s k : Nat) (h : k < 4) : (K.tail s).take (k + 1) = (K.tail s).take k ++ [(K.tail s).getD k 0] := L.take_snoc _ k h

set_option maxHeartbeats 1000000 in
theorem frame_any (A : Option Addr) (c : Nat) (l : List Int) (w : World) (hr : RdB w w.heap.size A l) (hl : K.Bytes l) (hn : l.length ≤ 100000) (ht : Fours w) :
    Calls Tryd.prog 12 #[.slice A l.length c] w (GotB (K.frame l) w) := by
  have HS := hide (fun (w1 : World) (h : Below w.heap.size w w1) => sum_any A c w.heap.size l w1 (hr.below h (Nat.le_refl _)) hl (by omega) (ht.below h))
  have HF := hide (show K.frame l = l ++ (K.tail (K.sum l)).take 4 from rfl)
  have hsl := K.more_lt' l
  generalize K.frame l = fr at *
  generalize K.sum l = s at *
  have HR := hide hr
  clear hr hl ht
  go_enter Tryd.func12, Tryd.ntmps12
  go_wp2_with (first
    | (at_make; refine mk0B_arm rfl _ _ _ rfl Tryd.underlying22 w.heap.size (l.length + 4) _ rfl rfl (by omega) (by omega) (Nat.le_refl _) ?_; intro w1 v1 ho1 hb1)
    | (at_builtin; refine apnB_arm rfl (.tmp 10) (.tmp 11) _ rfl Tryd.underlying22 w.heap.size _ [] rfl ho1 w.heap.size l.length c A l rfl rfl (HR.out.below hb1 (Nat.le_refl _)) (by simp; omega) hb1.size ?_; intro v2 w2 ho2 hg2))
  have HB2 := hide (below_grownB hb1 ho1 hg2 hb1.size)
  have HO2 := hide ho2
  clear ho2 hg2 ho1 hb1
  go_wp2_with fail
  refine (HS.out w2 HB2.out).mono ?_; rintro _ wr ⟨rfl, rfl⟩
  go_wp2_with fail
  go_loopw [5, 3] (fun vn vf wr => ∃ k : Nat, k ≤ 4 ∧ vn = .int .i64 k ∧ OwnB wr w.heap.size vf (l ++ (K.tail s).take k) ∧ Below w.heap.size w wr) (fun vn _ _ => 4 - (intOf vn).toNat)
  case atStart => exact ⟨0, by omega, rfl, by rw [List.take_zero, List.append_nil]; exact HO2.out, HB2.out⟩
  case round =>
    clear HO2 HB2
    obtain ⟨k, hk, rfl, ho, hb⟩ := hrel
    have HO := hide ho
    have HB := hide hb
    clear ho hb
    by_cases h4 : k < 4
    · have hln : Hid ((l ++ (K.tail s).take k).length ≤ 1000000000000) := hide (by rw [List.length_append, List.length_take, K.tail_len]; omega)
      have NEXT : Hid (∀ (z : Int) (v' : Value) (w2 : World) (o : Obj), z = (K.tail s).getD k 0 → OwnB w2 w.heap.size v' ((l ++ (K.tail s).take k) ++ [z]) → (wr.alloc o).grownBy w2 u3.ownBlock → OwnB w2 w.heap.size v' (l ++ (K.tail s).take (k + 1)) ∧ Below w.heap.size w w2) := hide (by
        intro z v' w2 o hz h1 h2
        refine ⟨?_, below_grownB (HB.out.alloc (by have := HB.out.size; omega) _) (HO.out.alloc _) h2 (by have := HB.out.size; simp; omega)⟩
        rw [K.tail_take s k h4, ← List.append_assoc, ← hz]; exact h1)
      generalize hfx : l ++ (K.tail s).take k = fx at *
      clear hfx
      obtain rfl | rfl | rfl | rfl : k = 0 ∨ k = 1 ∨ k = 2 ∨ k = 3 := by omega
      all_goals
        go_wp2_with (at_builtin; refine apB_arm rfl (.tmp 19) (.tmp 25) _ rfl Tryd.underlying22 w.heap.size _ fx rfl (HO.out.alloc _) wr.heap.size 1 _ rfl (World.cell?_alloc_new _ _ _ 0) hln.out (by have := HB.out.size; simp; omega) ?_; intro v' w2 ho2 hg2)
      · go_roundw
        case rel => exact ⟨1, by omega, by go_num, NEXT.out _ _ _ _ (by show _ = ((s % 256 : Nat) : Int); omega) ho2 hg2⟩
        case measure => simp [intOf]
      · go_roundw
        case rel => exact ⟨2, by omega, by go_num, NEXT.out _ _ _ _ (by show _ = ((s / 256 % 256 : Nat) : Int); omega) ho2 hg2⟩
        case measure => simp [intOf]
      · go_roundw
        case rel => exact ⟨3, by omega, by go_num, NEXT.out _ _ _ _ (by show _ = ((s / 65536 % 256 : Nat) : Int); omega) ho2 hg2⟩
        case measure => simp [intOf]
      · go_roundw
        case rel => exact ⟨4, by omega, by go_num, NEXT.out _ _ _ _ (by show _ = ((s / 16777216 : Nat) : Int); omega) ho2 hg2⟩
        case measure => simp [intOf]
    · obtain rfl : k = 4 := by omega
      go_wp2
      go_ret
      refine ⟨u3, rfl, ?_, HB.out⟩
      rw [HF.out]; exact HO.out

/-- What a frame is opened as: its bytes, of the call's own, or none. -/
def Got2B (xs : List Int) (b : Bool) (w : World) (e : Ending) (w' : World) : Prop := ∃ v, e = .returned (.tuple #[v, .bool b]) ∧ OwnB w' w.heap.size v xs ∧ Below w.heap.size w w'

theorem K.valid_num {f : List Int} (hf : K.Bytes f) (h4 : 4 ≤ f.length) : K.valid f = decide (K.sum (f.take (f.length - 4)) = K.num (f.drop (f.length - 4))) := by
  have ht := hf.drop (f.length - 4)
  have hlt : (f.drop (f.length - 4)).length = 4 := by rw [List.length_drop]; omega
  have hsl : K.sum (f.take (f.length - 4)) < 4294967296 := K.more_lt _ _
  unfold K.valid
  rw [decide_eq_true h4, Bool.true_and, decide_eq_decide]
  constructor
  · intro e; rw [e, K.tail_num hsl]
  · intro e; exact K.num_inj ht (K.tail_bytes hsl) (by rw [hlt]; rfl) (by rw [K.tail_num hsl, e])

set_option maxHeartbeats 1000000 in
theorem open_any (A : Option Addr) (c : Nat) (l : List Int) (w : World) (hr : RdB w w.heap.size A l) (hl : K.Bytes l) (hn : l.length ≤ 100000) (hc : l.length ≤ c) (ht : Fours w) :
    Calls Tryd.prog 13 #[.slice A l.length c] w (Got2B (K.openS l) (K.valid l) w) := by
  by_cases h4 : 4 ≤ l.length
  · obtain ⟨m, hm⟩ : ∃ m, l.length = m + 4 := ⟨l.length - 4, by omega⟩
    obtain ⟨g, o, rfl, _, _⟩ := hr (by omega)
    have hv := K.valid_num hl h4
    have hop : K.openS l = if K.valid l then l.take m else [] := by unfold K.openS; rw [show l.length - 4 = m by omega]
    rw [show l.length - 4 = m by omega] at hv
    have HS := hide (fun (w1 : World) (h : Below w.heap.size w w1) => show Calls Tryd.prog 8 #[.slice (some ⟨g, o, none⟩) m c] w1 (fun e w' => e = .returned (.int .u32 (K.sum (l.take m))) ∧ w' = w1) by
      have q := sum_any (some ⟨g, o, none⟩) c w.heap.size (l.take m) w1 ((hr.below h (Nat.le_refl _)).take m) (hl.take m) (by rw [List.length_take]; omega) (ht.below h)
      rw [List.length_take, show min m l.length = m by omega] at q; exact q)
    have HT := hide (fun (w1 : World) (h : Below w.heap.size w w1) => show Calls Tryd.prog 16 #[.slice (some ⟨g, o + m, none⟩) 4 (c - m)] w1 (fun e w' => e = .returned (.int .u32 (K.num (l.drop m))) ∧ w' = w1) by
      have hd : (l.drop m).length = 4 := by rw [List.length_drop]; omega
      have q := told_any (some ⟨g, o + m, none⟩) (c - m) w.heap.size (l.drop m) w1 ((hr.below h (Nat.le_refl _)).drop m) (hl.drop m) hd
      rw [hd] at q; exact q)
    have hR := hide (hr.take m)
    have hlm : (l.take m).length = m := by rw [List.length_take]; omega
    generalize K.valid l = b at *
    generalize K.openS l = op at *
    generalize K.sum (l.take m) = s at *
    generalize K.num (l.drop m) = d at *
    generalize l.take m = lm at *
    have HV := hide hv
    have HOP := hide hop
    clear hv hop hr ht hl
    rw [hm]
    have hcm2 : (m : Int) ≤ (c : Int) := by omega
    have hm0 : (0 : Int) ≤ (m : Int) := by omega
    go_enter Tryd.func13, Tryd.ntmps13
    have QT := hide (fun n => HS.out (w.drewN n) (below_drewN (Below.refl _ _) n))
    have QU := hide (fun n => HT.out (w.drewN n) (below_drewN (Below.refl _ _) n))
    clear HS HT
    go_wp2
    by_cases hsd : s = d
    · subst hsd
      have hb := HV.out
      rw [decide_eq_true rfl] at hb
      subst hb
      have hb2 := HOP.out
      rw [if_pos rfl] at hb2
      subst hb2
      clear HOP HV
      go_quiet (first | (go_at_call 8; with_reducible exact Calls.quiet_of_same (QT.out _)) | (go_at_call 16; with_reducible exact Calls.quiet_of_same (QU.out _)))
      go_wp2_with (at_builtin; refine apnB_arm rfl (.const (.slice none 0 0)) (.tmp 21) _ rfl Tryd.underlying22 w.heap.size _ [] rfl (OwnB.nil _ _) w.heap.size m c _ op rfl hlm.symm (hR.out.drewN _) (by simp; omega) (Nat.le_refl _) ?_; intro v' w2 ho2 hg2)
      go_ret2
      exact ⟨_, rfl, by simpa using ho2, below_grownB (below_drewN (Below.refl _ _) _) (OwnB.nil _ _) hg2 (Nat.le_refl _)⟩
    · have hb := HV.out
      rw [decide_eq_false hsd] at hb
      subst hb
      have hb2 := HOP.out
      rw [if_neg (by decide)] at hb2
      subst hb2
      clear HOP HV
      go_quiet (first | (go_at_call 8; with_reducible exact Calls.quiet_of_same (QT.out _)) | (go_at_call 16; with_reducible exact Calls.quiet_of_same (QU.out _)))
      go_wp2
      go_ret2
      exact ⟨_, rfl, OwnB.nil _ _, below_drewN (Below.refl _ _) _⟩
  · have hv : K.valid l = false := by unfold K.valid; rw [decide_eq_false h4, Bool.false_and]
    have hop : K.openS l = [] := by unfold K.openS; rw [hv]; rfl
    rw [hv, hop]
    clear hv hop hr ht hl
    go_enter Tryd.func13, Tryd.ntmps13
    go_wp2
    go_ret2
    exact ⟨_, rfl, OwnB.nil _ _, Below.refl _ _⟩
end Go.Proofs.YtmlmmjjnejbceaaDoor
