/- Contracts of numbers in bytes over this program: withRoom, behind, Put, Get, and the document's own Put, Get. -/
import Derived.Test.YtihdkaggjinmmaaCodeL
import Derived.Test.YtihdkaggjinmmaaInts
import Derived.Test.YtihdkaggjinmmaaCalm
namespace Go.Proofs.Ytihdkaggjinmmaa
open Go.RowKit

theorem withRoom_any (A : Option Addr) (c : Nat) (l : List Int) (r : Nat) (w : World) (hr : RdB w w.heap.size A l) (hn : l.length ≤ 1000000) (hm : r ≤ 1000000) :
    Calls Try.prog 18 #[.slice A l.length c, .int .i64 r] w (GotB l w) := by
  have HR := hide hr
  clear hr
  go_enter Try.func18, Try.ntmps18
  go_wp2_with (first
    | (at_make; refine mk0B_arm rfl _ _ _ rfl Try.underlying22 w.heap.size (l.length + r) _ rfl rfl (by omega) (by omega) (Nat.le_refl _) ?_; intro w1 v1 ho1 hb1)
    | (at_builtin; refine apnB_arm rfl (.tmp 9) (.tmp 10) _ rfl Try.underlying22 w.heap.size _ [] rfl ho1 w.heap.size l.length c A l rfl rfl (HR.out.below hb1 (Nat.le_refl _)) (by simp; omega) hb1.size ?_; intro v2 w2 ho2 hg2))
  have hb2 := below_grownB hb1 ho1 hg2 hb1.size
  rw [List.nil_append] at ho2
  go_ret
  exact ⟨_, rfl, ho2, hb2⟩

set_option maxHeartbeats 1000000 in
set_option maxRecDepth 100000 in
theorem behind_any (v : Value) (xs : List Int) (n B : Nat) (w : World) (ho : OwnB w B v xs) (hB : B ≤ w.heap.size) (hn : n < 4294967296) (hx : xs.length ≤ 100000000) :
    Calls Try.prog 17 #[v, .int .u32 n] w fun e w' => ∃ v', e = .returned v' ∧ OwnB w' B v' (xs ++ V.put n) ∧ Below B w w' := by
  have hp := V.put_len n hn
  generalize hput : V.put n = P at *
  have HP := hide hput
  have HO := hide ho
  clear ho hput
  go_enter Try.func17, Try.ntmps17
  go_wp2
  go_loopw [0, 1] (fun vb vn wr => ∃ (m : Nat) (ys : List Int), m ≤ n ∧ vn = .int .u32 m ∧ ys ++ V.put m = P ∧ OwnB wr B vb (xs ++ ys) ∧ Below B w wr) (fun _ vn _ => (intOf vn).toNat)
  case atStart => exact ⟨n, [], Nat.le_refl _, rfl, by rw [HP.out]; rfl, by rw [List.append_nil]; exact HO.out, Below.refl _ _⟩
  case round =>
    obtain ⟨m, ys, hm, rfl, hy, ho, hb⟩ := hrel
    have HY := hide hy
    have HO2 := hide ho
    have HB := hide hb
    have hlen : Hid ((xs ++ ys).length ≤ 1000000000000) := hide (by
      have := congrArg List.length hy
      rw [List.length_append] at this ⊢
      omega)
    clear ho hb hy HO HP
    by_cases hlt : m < 128
    · have HE := hide (show ys ++ [(m : Int)] = P by rw [← V.put_lt hlt]; exact HY.out)
      go_wp2_with (at_builtin; refine apB_arm rfl (.tmp 16) (.tmp 19) _ rfl Try.underlying22 B _ (xs ++ ys) rfl (HO2.out.alloc _) wr.heap.size 1 m rfl (World.cell?_alloc_new _ _ _ 0) hlen.out (by have := HB.out.size; simp; omega) ?_; intro v' w2 ho2 hg2)
      go_ret
      refine ⟨v', rfl, ?_, below_grownB (HB.out.alloc (by have := HB.out.size; omega) _) (HO2.out.alloc _) hg2 (by have := HB.out.size; simp; omega)⟩
      rw [List.append_assoc, HE.out] at ho2; exact ho2
    · have HE := hide (show ys ++ [((m % 128 + 128 : Nat) : Int)] ++ V.put (m / 128) = P by rw [List.append_assoc, List.singleton_append, ← V.put_ge hlt]; exact HY.out)
      go_wp2_with (at_builtin; refine apB_arm rfl (.tmp 9) (.tmp 14) _ rfl Try.underlying22 B _ (xs ++ ys) rfl (HO2.out.alloc _) wr.heap.size 1 ((m % 128 + 128 : Nat) : Int) rfl (World.cell?_alloc_new _ _ _ 0) hlen.out (by have := HB.out.size; simp; omega) ?_; intro v' w2 ho2 hg2)
      go_roundw
      case rel => exact ⟨m / 128, ys ++ [((m % 128 + 128 : Nat) : Int)], by omega, by go_num, HE.out, by rw [← List.append_assoc]; exact ho2, below_grownB (HB.out.alloc (by have := HB.out.size; omega) _) (HO2.out.alloc _) hg2 (by have := HB.out.size; simp; omega)⟩
      case measure => simp [intOf]; omega

theorem put_any (A : Option Addr) (c : Nat) (l : List Int) (n : Nat) (w : World) (hr : RdB w w.heap.size A l) (hn : n < 4294967296) (hl : l.length ≤ 1000000) :
    Calls Try.prog 10 #[.slice A l.length c, .int .u32 n] w (GotB (l ++ V.put n) w) := by
  have H := hide (withRoom_any A c l 5 w hr hl (by omega))
  have F := hide (fun (v : Value) (w1 : World) (ho : OwnB w1 w.heap.size v l) (hB : w.heap.size ≤ w1.heap.size) => behind_any v l n w.heap.size w1 ho hB hn (by omega))
  generalize V.put n = P at *
  clear hr hn hl
  go_enter Try.func10, Try.ntmps10
  go_wp2_with fail
  refine H.out.mono ?_; rintro _ w1 ⟨v1, rfl, ho1, hb1⟩
  go_wp2_with fail
  refine (F.out v1 w1 ho1 hb1.size).mono ?_; rintro _ w2 ⟨v2, rfl, ho2, hb2⟩
  go_wp2
  go_ret
  exact ⟨_, rfl, ho2, hb1.trans hb2⟩

set_option maxHeartbeats 1000000 in
set_option maxRecDepth 100000 in
theorem rput_any (A : Option Addr) (c : Nat) (l : List Int) (n : Nat) (w : World) (hr : RdB w w.heap.size A l) (hn : n < 4294967296) (hl : l.length ≤ 1000000) :
    Calls Try.prog 11 #[.slice A l.length c, .int .u32 n] w (GotB (l ++ V.put n) w) := by
  have hp := V.put_len n hn
  generalize hput : V.put n = P at *
  have HP := hide hput
  have HR := hide hr
  clear hr hput
  go_enter Try.func11, Try.ntmps11
  go_wp2_with (at_builtin; refine apnB_arm rfl (.tmp 6) (.tmp 7) _ rfl Try.underlying22 w.heap.size _ [] rfl (ownB_empty w) w.heap.size l.length c A l rfl rfl (HR.out.alloc (Nat.le_refl _) _) (by simp; omega) (by simp) ?_; intro v1 w1 ho1 hg1)
  have hb1 := below_grownB ((Below.refl w.heap.size w).alloc (Nat.le_refl _) (.cells #[] 5)) (ownB_empty w) hg1 (by simp)
  rw [List.nil_append] at ho1
  have HO := hide ho1
  have HB1 := hide hb1
  clear ho1 hb1 hg1
  go_wp2_with fail
  go_loopw [5, 1] (fun vb vn wr => ∃ (m : Nat) (ys : List Int), m ≤ n ∧ vn = .int .u32 m ∧ ys ++ V.put m = P ∧ OwnB wr w.heap.size vb (l ++ ys) ∧ Below w.heap.size w wr) (fun _ vn _ => (intOf vn).toNat)
  case atStart => exact ⟨n, [], Nat.le_refl _, rfl, by rw [HP.out]; rfl, by rw [List.append_nil]; exact HO.out, HB1.out⟩
  case round =>
    obtain ⟨m, ys, hm, rfl, hy, ho, hb⟩ := hrel
    have HY := hide hy
    have HO2 := hide ho
    have HB := hide hb
    have hlen : Hid ((l ++ ys).length ≤ 1000000000000) := hide (by
      have := congrArg List.length hy
      rw [List.length_append] at this ⊢
      omega)
    clear ho hb hy HO HP HB1
    by_cases hlt : m < 128
    · have HE := hide (show ys ++ [(m : Int)] = P by rw [← V.put_lt hlt]; exact HY.out)
      go_wp2_with (at_builtin; refine apB_arm rfl (.tmp 20) (.tmp 23) _ rfl Try.underlying22 w.heap.size _ (l ++ ys) rfl (HO2.out.alloc _) wr.heap.size 1 m rfl (World.cell?_alloc_new _ _ _ 0) hlen.out (by have := HB.out.size; simp; omega) ?_; intro v' w2 ho2 hg2)
      go_ret
      refine ⟨v', rfl, ?_, below_grownB (HB.out.alloc (by have := HB.out.size; omega) _) (HO2.out.alloc _) hg2 (by have := HB.out.size; simp; omega)⟩
      rw [List.append_assoc, HE.out] at ho2; exact ho2
    · have HE := hide (show ys ++ [((m % 128 + 128 : Nat) : Int)] ++ V.put (m / 128) = P by rw [List.append_assoc, List.singleton_append, ← V.put_ge hlt]; exact HY.out)
      go_wp2_with (at_builtin; refine apB_arm rfl (.tmp 11) (.tmp 16) _ rfl Try.underlying22 w.heap.size _ (l ++ ys) rfl (HO2.out.alloc _) wr.heap.size 1 ((m % 128 + 128 : Nat) : Int) rfl (World.cell?_alloc_new _ _ _ 0) hlen.out (by have := HB.out.size; simp; omega) ?_; intro v' w2 ho2 hg2)
      go_roundw
      case rel => exact ⟨m / 128, ys ++ [((m % 128 + 128 : Nat) : Int)], by omega, by go_num, HE.out, by rw [← List.append_assoc]; exact ho2, below_grownB (HB.out.alloc (by have := HB.out.size; omega) _) (HO2.out.alloc _) hg2 (by have := HB.out.size; simp; omega)⟩
      case measure => simp [intOf]; omega
end Go.Proofs.Ytihdkaggjinmmaa
