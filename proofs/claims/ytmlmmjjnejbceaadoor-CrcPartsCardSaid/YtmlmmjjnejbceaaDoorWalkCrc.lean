/- The walks of the statements of sums over this program. -/
import Derived.Test.YtmlmmjjnejbceaaDoorAlive4
namespace Go.Proofs.YtmlmmjjnejbceaaDoor
open Go.RowKit

set_option maxHeartbeats 1000000 in
theorem crcSums_walk (A : Option Addr) (c s : Nat) (l : List Int) (w : World) (hs : s < 4294967296) (hr : RdB w w.heap.size A l) (hl : K.Bytes l) (hn : l.length ≤ 9223372036854775807) (ht : Fours w) :
    Calls Tryd.prog 3 #[.slice A l.length c, .int .u32 s] w fun e w' => e = .returned (.bool true) ∧ Below w.heap.size w w' := by
  have HA := hide (alive4_any w ht)
  have F1 := hide (fun (w1 : World) (h : Below w.heap.size w w1) => sum_any A c w.heap.size l w1 (hr.below h (Nat.le_refl _)) hl hn (ht.below h))
  have F2 := hide (fun (w1 : World) (h : Below w.heap.size w w1) => rsum_any A c w.heap.size l w1 (hr.below h (Nat.le_refl _)) hl hn)
  have F3 := hide (fun (w1 : World) (h : Below w.heap.size w w1) => more_any s A c w.heap.size l w1 hs (hr.below h (Nat.le_refl _)) hl hn (ht.below h))
  have F4 := hide (fun (w1 : World) (h : Below w.heap.size w w1) => rmore_any s A c w.heap.size l w1 hs (hr.below h (Nat.le_refl _)) hl hn)
  generalize K.sum l = x at *
  generalize K.more s l = y at *
  clear hr ht hl
  go_enter Tryd.func3, Tryd.ntmps3
  go_wp2_with fail
  refine HA.out.mono ?_; rintro _ w1 ⟨rfl, hb1⟩
  have B1 := hide hb1
  clear hb1
  by_cases h2 : (l.length : Int) > 2000
  · go_wp2
    go_ret
    exact ⟨rfl, B1.out⟩
  · go_wp2_with fail
    refine (F1.out w1 B1.out).mono ?_; rintro _ _ ⟨rfl, rfl⟩
    go_wp2_with fail
    refine (F2.out _ B1.out).mono ?_; rintro _ _ ⟨rfl, rfl⟩
    go_wp2_with fail
    refine (F3.out _ B1.out).mono ?_; rintro _ _ ⟨rfl, rfl⟩
    go_wp2_with fail
    refine (F4.out _ B1.out).mono ?_; rintro _ _ ⟨rfl, rfl⟩
    go_wp2
    go_ret
    exact ⟨rfl, B1.out⟩

set_option maxHeartbeats 1000000 in
theorem crcParts_walk (A A' A'' : Option Addr) (c c' c'' : Nat) (l l' l'' : List Int) (w : World) (hr : RdB w w.heap.size A l) (hr' : RdB w w.heap.size A' l') (hr'' : RdB w w.heap.size A'' l'') (hl : K.Bytes l) (hl' : K.Bytes l') (hl'' : K.Bytes l'')
    (hn : l.length ≤ 140737488351232) (hn' : l'.length ≤ 140737488351232) (hn'' : l''.length ≤ 140737488351232) (ht : Fours w) :
    Calls Tryd.prog 5 #[.slice A l.length c, .slice A' l'.length c', .slice A'' l''.length c''] w fun e w' => e = .returned (.bool true) ∧ Below w.heap.size w w' := by
  have HA := hide (alive4_any w ht)
  have hbs : K.Bytes (l ++ l' ++ l'') := (hl.app hl').app hl''
  have S1 := hide (fun (w1 : World) (h : Below w.heap.size w w1) => sum_any A c w.heap.size l w1 (hr.below h (Nat.le_refl _)) hl (by omega) (ht.below h))
  have S2 := hide (fun (w1 : World) (h : Below w.heap.size w w1) => more_any (K.sum l) A' c' w.heap.size l' w1 (K.more_lt _ _) (hr'.below h (Nat.le_refl _)) hl' (by omega) (ht.below h))
  have S3 := hide (fun (w1 : World) (h : Below w.heap.size w w1) => by
    have q := more_any (K.more (K.sum l) l') A'' c'' w.heap.size l'' w1 (K.more_lt _ _) (hr''.below h (Nat.le_refl _)) hl'' (by omega) (ht.below h)
    rw [show K.more (K.more (K.sum l) l') l'' = K.sum (l ++ l' ++ l'') by unfold K.sum; rw [K.more_app _ hl, K.more_app _ (hl.app hl')]] at q
    exact q)
  have S4 := hide (fun (w1 : World) (A : Option Addr) (n c : Nat) (hn : n = (l ++ l' ++ l'').length) (hm : n ≤ 9223372036854775807) (h : Below w.heap.size w w1) (hr : RdB w1 w1.heap.size A (l ++ l' ++ l'')) => show Calls Tryd.prog 8 #[.slice A n c] w1 (fun e w' => e = .returned (.int .u32 (K.sum (l ++ l' ++ l''))) ∧ w' = w1) by
    rw [hn]; exact sum_any A c _ _ w1 hr hbs (by omega) (ht.below h))
  have S5 := hide (fun (w1 : World) (A : Option Addr) (n c : Nat) (hn : n = (l ++ l' ++ l'').length) (hm : n ≤ 9223372036854775807) (h : Below w.heap.size w w1) (hr : RdB w1 w1.heap.size A (l ++ l' ++ l'')) => show Calls Tryd.prog 10 #[.int .u32 0, .slice A n c] w1 (fun e w' => e = .returned (.int .u32 (K.sum (l ++ l' ++ l''))) ∧ w' = w1) by
    rw [hn]; exact more_any 0 A c _ _ w1 (by omega) hr hbs (by omega) (ht.below h))
  have S6 := hide (fun (w1 : World) (h : Below w.heap.size w w1) => show Calls Tryd.prog 10 #[.int .u32 (K.sum (l ++ l' ++ l'')), .slice none 0 0] w1 (fun e w' => e = .returned (.int .u32 (K.sum (l ++ l' ++ l''))) ∧ w' = w1) by
    have q := more_any (K.sum (l ++ l' ++ l'')) none 0 0 [] w1 (K.more_lt _ _) (RdB.nil _ _ _) K.Bytes.nil (by simp) (ht.below h)
    rw [K.more_nil (K.more_lt' _)] at q
    exact q)
  generalize K.more (K.sum l) l' = y at *
  generalize K.sum l = x at *
  generalize K.sum (l ++ l' ++ l'') = z at *
  have HR := hide hr
  have HR' := hide hr'
  have HR'' := hide hr''
  clear hr hr' hr'' ht hl hl' hl'' hbs
  go_enter Tryd.func5, Tryd.ntmps5
  go_wp2_with fail
  refine HA.out.mono ?_; rintro _ w1 ⟨rfl, hb1⟩
  have B1 := hide hb1
  clear hb1
  by_cases h2 : (l.length : Int) + (l'.length : Int) + (l''.length : Int) > 2000
  · go_wp2
    go_ret
    exact ⟨rfl, B1.out⟩
  · go_wp2_with (first
      | (at_builtin; refine apnB_arm rfl (.tmp 19) (.tmp 20) _ rfl Tryd.underlying22 w1.heap.size _ [] rfl (ownB_empty w1) w.heap.size l.length c A l rfl rfl ((HR.out.below B1.out (Nat.le_refl _)).alloc B1.out.size _) (by simp; omega) (by simp) ?_; intro v2 w2 ho2 hg2; have hb2 := below_grownB ((Below.refl w1.heap.size w1).alloc (Nat.le_refl _) (.cells #[] 5)) (ownB_empty w1) hg2 (by simp); have hB2 := B1.out.trans (hb2.mono B1.out.size))
      | (at_builtin; refine apnB_arm rfl (.tmp 21) (.tmp 22) _ rfl Tryd.underlying22 w1.heap.size _ ([] ++ l) rfl ho2 w.heap.size l'.length c' A' l' rfl rfl (HR'.out.below hB2 (Nat.le_refl _)) (by simp; omega) hb2.size ?_; intro v3 w3 ho3 hg3; have hb3 := below_grownB hb2 ho2 hg3 hb2.size; have hB3 := B1.out.trans (hb3.mono B1.out.size))
      | (at_builtin; refine apnB_arm rfl (.tmp 23) (.tmp 24) _ rfl Tryd.underlying22 w1.heap.size _ ([] ++ l ++ l') rfl ho3 w.heap.size l''.length c'' A'' l'' rfl rfl (HR''.out.below hB3 (Nat.le_refl _)) (by simp; omega) hb3.size ?_; intro v4 w4 ho4 hg4; have hb4 := below_grownB hb3 ho3 hg4 hb3.size; have hB4 := B1.out.trans (hb4.mono B1.out.size)))
    rw [List.nil_append] at ho4
    have hll : (l ++ l' ++ l'').length ≤ 9223372036854775807 := by simp; omega
    obtain ⟨A4, c4, rfl, _, _, hr4⟩ := ho4.form
    have R4 := hide hr4
    have B4 := hide hB4
    have HLL := hide hll
    generalize hal : l ++ l' ++ l'' = al at *
    clear ho2 ho3 ho4 hg2 hg3 hg4 hr4 hb2 hb3 hb4 hB2 hB3 hB4 hll hal
    go_wp2_with fail
    refine (S1.out w4 B4.out).mono ?_; rintro _ _ ⟨rfl, rfl⟩
    go_wp2_with fail
    refine (S2.out _ B4.out).mono ?_; rintro _ _ ⟨rfl, rfl⟩
    go_wp2_with fail
    refine (S3.out _ B4.out).mono ?_; rintro _ _ ⟨rfl, rfl⟩
    go_wp2_with fail
    refine (S4.out _ A4 _ c4 rfl HLL.out B4.out R4.out).mono ?_; rintro _ _ ⟨rfl, rfl⟩
    go_wp2_with fail
    refine (S5.out _ A4 _ c4 rfl HLL.out B4.out R4.out).mono ?_; rintro _ _ ⟨rfl, rfl⟩
    go_wp2_with fail
    refine (S4.out _ A4 _ c4 rfl HLL.out B4.out R4.out).mono ?_; rintro _ _ ⟨rfl, rfl⟩
    go_wp2_with fail
    refine (S4.out _ A4 _ c4 rfl HLL.out B4.out R4.out).mono ?_; rintro _ _ ⟨rfl, rfl⟩
    go_wp2_with fail
    refine (S6.out _ B4.out).mono ?_; rintro _ _ ⟨rfl, rfl⟩
    go_wp2_with fail
    refine (S4.out _ A4 _ c4 rfl HLL.out B4.out R4.out).mono ?_; rintro _ _ ⟨rfl, rfl⟩
    go_wp2
    go_ret
    exact ⟨rfl, B4.out⟩
end Go.Proofs.YtmlmmjjnejbceaaDoor
