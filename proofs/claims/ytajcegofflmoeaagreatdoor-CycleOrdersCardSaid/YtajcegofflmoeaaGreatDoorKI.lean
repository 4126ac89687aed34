/- Part of the proofs over this program: Ref7O, Ref7T, Ref8O, BldD, BldE, BldF, BldH, BldJ, BldK, BldP, BldX, Work9, Term9, ShowL. -/
import Derived.Test.YtajcegofflmoeaaGreatDoorKE
import Derived.Test.YtajcegofflmoeaaGreatDoorKH
namespace Go.Proofs.YtajcegofflmoeaaGreatDoor
set_option maxRecDepth 100000
open Go.RowKit

theorem rmark_any (z : Int) (w : World) : Calls Tryz.prog 118 #[.int .u8 z] w fun e w' => e = .returned (.int .i64 (if z = 58 then 10 else if z = 124 then 11 else if z = 59 then 12 else 0)) ∧ w = w' := by
  by_cases h1 : z = 58
  · subst h1
    go_enter Tryz.func118, Tryz.ntmps118
    go_wp2
    go_ret
    exact ⟨rfl, rfl⟩
  · by_cases h2 : z = 124
    · subst h2
      go_enter Tryz.func118, Tryz.ntmps118
      go_wp2
      go_ret
      exact ⟨rfl, rfl⟩
    · by_cases h3 : z = 59
      · subst h3
        go_enter Tryz.func118, Tryz.ntmps118
        go_wp2
        go_ret
        exact ⟨rfl, rfl⟩
      · rw [if_neg h1, if_neg h2, if_neg h3]
        have q1 : (z == 58) = false := by simpa using h1
        have q2 : (z == 124) = false := by simpa using h2
        have q3 : (z == 59) = false := by simpa using h3
        clear h1 h2 h3
        go_enter Tryz.func118, Tryz.ntmps118
        go_wp2
        go_ret
        exact ⟨rfl, rfl⟩

theorem str_b (l m : List Int) (hl : K.Bytes l) (hm : K.Bytes m) : ((K.str l).toList == (K.str m).toList) = decide (l = m) := by
  rw [T.str_list, T.str_list, Bool.eq_iff_iff, beq_iff_eq, decide_eq_true_iff]
  exact ⟨fun h => K.bytes_inj hl hm h, fun h => by rw [h]⟩
theorem rpercent_any (l : List Int) (hl : K.Bytes l) (w : World) : Calls Tryz.prog 117 #[.string (K.str l)] w fun e w' => e = .returned (.int .i64 (T.wkind l)) ∧ w = w' := by
  have b1 := str_b l [116, 111, 107, 101, 110] hl (by intro x hx; simp at hx; omega)
  have b2 := str_b l [108, 101, 102, 116] hl (by intro x hx; simp at hx; omega)
  have b3 := str_b l [114, 105, 103, 104, 116] hl (by intro x hx; simp at hx; omega)
  have b4 := str_b l [110, 111, 110, 97, 115, 115, 111, 99] hl (by intro x hx; simp at hx; omega)
  have b5 := str_b l [115, 116, 97, 114, 116] hl (by intro x hx; simp at hx; omega)
  have b6 := str_b l [112, 114, 101, 99] hl (by intro x hx; simp at hx; omega)
  rw [show (K.str [116, 111, 107, 101, 110]).toList = [116, 111, 107, 101, 110] by rw [ByteArray.toList_eq]; rfl] at b1
  rw [show (K.str [108, 101, 102, 116]).toList = [108, 101, 102, 116] by rw [ByteArray.toList_eq]; rfl] at b2
  rw [show (K.str [114, 105, 103, 104, 116]).toList = [114, 105, 103, 104, 116] by rw [ByteArray.toList_eq]; rfl] at b3
  rw [show (K.str [110, 111, 110, 97, 115, 115, 111, 99]).toList = [110, 111, 110, 97, 115, 115, 111, 99] by rw [ByteArray.toList_eq]; rfl] at b4
  rw [show (K.str [115, 116, 97, 114, 116]).toList = [115, 116, 97, 114, 116] by rw [ByteArray.toList_eq]; rfl] at b5
  rw [show (K.str [112, 114, 101, 99]).toList = [112, 114, 101, 99] by rw [ByteArray.toList_eq]; rfl] at b6
  unfold T.wkind
  clear hl
  generalize hs : K.str l = st at *
  clear hs
  go_enter Tryz.func117, Tryz.ntmps117
  go_wp2
  all_goals go_ret
  all_goals exact ⟨rfl, rfl⟩

namespace T
theorem skip_kind (l : List Int) (f : Nat) (s : List Int) : (skip l f s).1 = 0 := by unfold skip; split <;> rfl
theorem head_z {z : Int} (h : head z = true) : (97 ≤ z ∧ z ≤ 122) ∨ (65 ≤ z ∧ z ≤ 90) ∨ z = 95 := by
  unfold head small at h
  simp only [Bool.or_eq_true, Bool.and_eq_true, decide_eq_true_eq, beq_iff_eq] at h
  omega
theorem piece_name (l : List Int) (h : head (l.getD 0 0) = true) : piece l = name l := by
  have hz := head_z h
  unfold piece
  simp only
  rw [if_neg (by omega), if_neg (by omega), if_neg (by omega), if_neg (by omega), if_neg (by omega), if_neg (by omega), if_neg (by omega), if_neg (by omega), if_neg (by omega)]
theorem piece_39 (l : List Int) (h : l.getD 0 0 = 39) : piece l = literal l := by
  unfold piece
  simp only [h]
  rfl
theorem piece_sign (l : List Int) (h1 : head (l.getD 0 0) = false) (h2 : ¬ l.getD 0 0 = 39) (h3 : ¬ l.getD 0 0 = 37) (he : (piece l).2.2 = 0) (hk : (piece l).1 ≠ 0) : piece l = ((if l.getD 0 0 = 58 then 10 else if l.getD 0 0 = 124 then 11 else if l.getD 0 0 = 59 then 12 else 0), 1, 0) ∧ (if l.getD 0 0 = 58 then (10 : Int) else if l.getD 0 0 = 124 then 11 else if l.getD 0 0 = 59 then 12 else 0) ≠ 0 := by
  have hns : nsize l = 0 := by
    cases l with
    | nil => rfl
    | cons z r => rw [nsize_cons, if_neg]; simpa using h1
  revert he hk
  unfold piece
  simp only
  split
  · intro _ h; exact absurd rfl h
  split
  · intro _ h
    unfold comment at h
    split at h
    · exact absurd (skip_kind _ _ _) h
    split at h <;> exact absurd rfl h
  split
  · intro _ h; exact absurd (skip_kind _ _ _) h
  split
  · intro _ h
    unfold action at h
    split at h <;> exact absurd rfl h
  split
  · exact fun _ _ => ⟨rfl, by decide⟩
  split
  · exact fun _ _ => ⟨rfl, by decide⟩
  split
  · exact fun _ _ => ⟨rfl, by decide⟩
  · intro h
    unfold name at h
    rw [if_pos hns] at h
    simp at h
end T

def oneV (L : List Int) (k : Nat) (x : T.P3) : Value := .tuple #[.agg #[.int .i64 x.1, .string (K.str (ttext x.1 ((L.drop k).take x.2.1))), .complex .f64 (Fl.fl (Pl.pos (L.take k)).1) (Fl.fl (Pl.pos (L.take k)).2)], .int .i64 ((k + x.2.1 : Nat) : Int), .int .i64 0]

set_option maxHeartbeats 4000000 in
theorem one_sign (A : Option Addr) (c : Nat) (L : List Int) (k : Nat) (w : World) (hr : RdB w w.heap.size A L) (hl : K.Bytes L) (hc : L.length ≤ c) (hn : L.length ≤ 2000) (hk : k < L.length) (he : (T.piece (L.drop k)).2.2 = 0) (hx : (T.piece (L.drop k)).1 ≠ 0)
    (h1 : T.head (L.getD k 0) = false) (h2 : ¬ L.getD k 0 = 39) (h3 : ¬ L.getD k 0 = 37) :
    Calls Tryz.prog 97 #[.slice A L.length c, .int .i64 k] w fun e w' => e = .returned (oneV L k (T.piece (L.drop k))) ∧ Below w.heap.size w w' := by
  have hz : (L.drop k).getD 0 0 = L.getD k 0 := by rw [Go.Proofs.YtajcegofflmoeaaGreatDoor.L.cons_drop L k hk]; rfl
  obtain ⟨g, o, rfl, hgl, hcl⟩ := hr (by omega)
  have hcell := hcl k hk
  have hps := T.piece_sign (L.drop k) (by rw [hz]; exact h1) (by rw [hz]; exact h2) (by rw [hz]; exact h3) he hx
  rw [hz] at hps
  obtain ⟨hpc, hkn⟩ := hps
  have hp37 : T.pre (L.drop k) [37, 37] = false := by
    rcases hh : T.pre (L.drop k) [37, 37] with _ | _
    · rfl
    · exact absurd ((T.pre_two _ _ _ (hl.drop k) (by intro x hx; simp at hx; omega) hh).1) (by rw [hz]; exact h3)
  have HAT := hide (fun (w1 : World) (h : Below w.heap.size w w1) => rat_in (some ⟨g, o, none⟩) c w.heap.size L k w1 (hr.below h (Nat.le_refl _)) hn (by omega))
  have H1 := hide (fun (w1 : World) (h : Below w.heap.size w w1) => rhas_any (some ⟨g, o, none⟩) c w.heap.size L [37, 37] k w1 (hr.below h (Nat.le_refl _)) hl hc (by omega) (by omega) (by decide))
  rw [hp37, show K.str [37, 37] = ⟨#[37, 37]⟩ from rfl] at H1
  have HF := hide (first_any (L.getD k 0))
  rw [h1] at HF
  have HM := hide (rmark_any (L.getD k 0))
  have HB0 := hide (fun o => ((Below.refl w.heap.size w).alloc (Nat.le_refl _) o))
  have SC := fun a w m X Y => show (store a (.complex .f64 X Y) m).run Tryz.prog w = stored Tryz.prog w a (.complex .f64 X Y) m from run_store _ w a _ m rfl
  have q39 : (L.getD k 0 == 39) = false := by simpa using h2
  have q37 : (L.getD k 0 == 37) = false := by simpa using h3
  rw [hpc]
  unfold oneV
  have ht : ttext (if L.getD k 0 = 58 then 10 else if L.getD k 0 = 124 then 11 else if L.getD k 0 = 59 then 12 else 0) ((L.drop k).take 1) = [] := by
    unfold ttext
    rw [if_neg]
    split
    · omega
    split
    · omega
    split <;> omega
  simp only
  rw [ht, show K.str [] = ⟨#[]⟩ from rfl]
  have qk : ((if L.getD k 0 = 58 then (10 : Int) else if L.getD k 0 = 124 then 11 else if L.getD k 0 = 59 then 12 else 0) == 0) = false := by simpa using hkn
  clear ht hpc hkn hp37 hcl hr hz h1 h2 h3 he hx
  generalize (if L.getD k 0 = 58 then (10 : Int) else if L.getD k 0 = 124 then 11 else if L.getD k 0 = 59 then 12 else 0) = xk at *
  generalize L.getD k 0 = z at *
  generalize Fl.fl (Pl.pos (L.take k)).1 = X at *
  generalize Fl.fl (Pl.pos (L.take k)).2 = Y at *
  go_enter Tryz.func97, Tryz.ntmps97
  go_wp2_with fail
  refine (HAT.out _ (HB0.out _)).mono ?_; rintro _ w' ⟨rfl, rfl⟩
  go_wp2_with fail
  refine (HF.out _).mono ?_; rintro _ w' ⟨rfl, rfl⟩
  go_wp2_with fail
  refine (H1.out _ ((HB0.out _).alloc (by simp) _)).mono ?_; rintro _ w' ⟨rfl, rfl⟩
  go_wp2_with fail
  refine (HM.out _).mono ?_; rintro _ w' ⟨rfl, rfl⟩
  go_wp2
  refine bodyPost_ret (v := .tuple #[.agg #[.int .i64 xk, .string ⟨#[]⟩, .complex .f64 X Y], .int .i64 ((k : Int) + 1), .int .i64 0]) (by simp [results, Tryz.results97, go_sem]) rfl ⟨by rw [Int.natCast_add]; rfl, ?_⟩
  exact (HB0.out _).alloc (by simp) _

set_option maxHeartbeats 4000000 in
theorem one_mark (A : Option Addr) (c : Nat) (L : List Int) (k : Nat) (w : World) (hr : RdB w w.heap.size A L) (hl : K.Bytes L) (hc : L.length ≤ c) (hn : L.length ≤ 2000) (hk : k < L.length) (hp : T.pre (L.drop k) [37, 37] = true) :
    Calls Tryz.prog 97 #[.slice A L.length c, .int .i64 k] w fun e w' => e = .returned (oneV L k (T.piece (L.drop k))) ∧ Below w.heap.size w w' := by
  have hz : (L.drop k).getD 0 0 = L.getD k 0 := by rw [Go.Proofs.YtajcegofflmoeaaGreatDoor.L.cons_drop L k hk]; rfl
  have h37 := (T.pre_two _ _ _ (hl.drop k) (by intro x hx; simp at hx; omega) hp).1
  have hpc : T.piece (L.drop k) = (9, 2, 0) := by rw [T.piece_37 _ h37]; unfold T.percent; rw [if_pos hp]
  rw [hz] at h37
  obtain ⟨g, o, rfl, hgl, hcl⟩ := hr (by omega)
  have hcell := hcl k hk
  rw [h37] at hcell
  have HAT := hide (fun (w1 : World) (h : Below w.heap.size w w1) => rat_in (some ⟨g, o, none⟩) c w.heap.size L k w1 (hr.below h (Nat.le_refl _)) hn (by omega))
  have H1 := hide (fun (w1 : World) (h : Below w.heap.size w w1) => rhas_any (some ⟨g, o, none⟩) c w.heap.size L [37, 37] k w1 (hr.below h (Nat.le_refl _)) hl hc (by omega) (by omega) (by decide))
  rw [hp, show K.str [37, 37] = ⟨#[37, 37]⟩ from rfl] at H1
  have HF := hide (first_any 37)
  rw [show T.head 37 = false from rfl] at HF
  have HB0 := hide (fun o => ((Below.refl w.heap.size w).alloc (Nat.le_refl _) o))
  have SC := fun a w m X Y => show (store a (.complex .f64 X Y) m).run Tryz.prog w = stored Tryz.prog w a (.complex .f64 X Y) m from run_store _ w a _ m rfl
  rw [hpc]
  unfold oneV
  simp only
  rw [show ttext 9 ((L.drop k).take 2) = [] from rfl, show K.str [] = ⟨#[]⟩ from rfl]
  clear hpc hp hcl hr hz h37
  generalize Fl.fl (Pl.pos (L.take k)).1 = X at *
  generalize Fl.fl (Pl.pos (L.take k)).2 = Y at *
  go_enter Tryz.func97, Tryz.ntmps97
  go_wp2_with fail
  refine (HAT.out _ (HB0.out _)).mono ?_; rintro _ w' ⟨rfl, rfl⟩
  go_wp2_with fail
  refine (HF.out _).mono ?_; rintro _ w' ⟨rfl, rfl⟩
  go_wp2_with fail
  refine (H1.out _ ((HB0.out _).alloc (by simp) _)).mono ?_; rintro _ w' ⟨rfl, rfl⟩
  go_wp2
  refine bodyPost_ret (v := .tuple #[.agg #[.int .i64 9, .string ⟨#[]⟩, .complex .f64 X Y], .int .i64 ((k : Int) + 2), .int .i64 0]) (by simp [results, Tryz.results97, go_sem]) rfl ⟨by rw [Int.natCast_add]; rfl, ?_⟩
  exact (HB0.out _).alloc (by simp) _

set_option maxHeartbeats 4000000 in
theorem one_word (A : Option Addr) (c : Nat) (L : List Int) (k : Nat) (w : World) (hr : RdB w w.heap.size A L) (hl : K.Bytes L) (hc : L.length ≤ c) (hn : L.length ≤ 2000) (hk : k < L.length) (he : (T.piece (L.drop k)).2.2 = 0) (hx : (T.piece (L.drop k)).1 ≠ 0) (h37 : L.getD k 0 = 37) (hp : T.pre (L.drop k) [37, 37] = false) :
    Calls Tryz.prog 97 #[.slice A L.length c, .int .i64 k] w fun e w' => e = .returned (oneV L k (T.piece (L.drop k))) ∧ Below w.heap.size w w' := by
  have hz : (L.drop k).getD 0 0 = L.getD k 0 := by rw [Go.Proofs.YtajcegofflmoeaaGreatDoor.L.cons_drop L k hk]; rfl
  have hps : T.psize (L.drop k) = 1 + T.run T.small (L.drop (k + 1)) := by unfold T.psize; rw [List.drop_drop]
  have hword : ((L.drop k).take (T.psize (L.drop k))).drop 1 = (L.drop (k + 1)).take (T.run T.small (L.drop (k + 1))) := by
    rw [hps, List.drop_take, List.drop_drop]
    congr 1
    omega
  have hpc : T.piece (L.drop k) = (T.wkind ((L.drop (k + 1)).take (T.run T.small (L.drop (k + 1)))), 1 + T.run T.small (L.drop (k + 1)), 0) ∧ T.wkind ((L.drop (k + 1)).take (T.run T.small (L.drop (k + 1)))) ≠ 0 := by
    rw [T.piece_37 _ (hz.trans h37)] at he hx ⊢
    unfold T.percent at he hx ⊢
    rw [if_neg (by rw [hp]; simp)] at he hx ⊢
    by_cases h3 : T.pre (L.drop k) [37, 123] = true
    · rw [if_pos h3] at hx; exact absurd (T.skip_kind _ _ _) hx
    · rw [if_neg h3] at he hx ⊢
      rw [hword, hps] at he ⊢
      by_cases h4 : T.wkind ((L.drop (k + 1)).take (T.run T.small (L.drop (k + 1)))) = 0
      · exfalso; simp [h4] at he
      · exact ⟨by simp [h4], h4⟩
  obtain ⟨hpc, hkn⟩ := hpc
  obtain ⟨g, o, rfl, hgl, hcl⟩ := hr (by omega)
  have hcell := hcl k hk
  rw [h37] at hcell
  have HC := hide hcl
  have hrl := T.run_le T.small (L.drop (k + 1))
  rw [List.length_drop] at hrl
  have HAT := hide (fun (w1 : World) (h : Below w.heap.size w w1) => rat_in (some ⟨g, o, none⟩) c w.heap.size L k w1 (hr.below h (Nat.le_refl _)) hn (by omega))
  have H1 := hide (fun (w1 : World) (h : Below w.heap.size w w1) => rhas_any (some ⟨g, o, none⟩) c w.heap.size L [37, 37] k w1 (hr.below h (Nat.le_refl _)) hl hc (by omega) (by omega) (by decide))
  rw [hp, show K.str [37, 37] = ⟨#[37, 37]⟩ from rfl] at H1
  have HF := hide (first_any 37)
  rw [show T.head 37 = false from rfl] at HF
  have HCV := hide (fun (o1 o2 : Obj) => str_conv ((((hr.alloc (Nat.le_refl _) o1).alloc (by simp) o2).dropA hc (k + 1)).take (T.run T.small (L.drop (k + 1)))) ((hl.drop (k + 1)).take _) (c - (k + 1)))
  have HK := hide (fun w => rpercent_any ((L.drop (k + 1)).take (T.run T.small (L.drop (k + 1)))) ((hl.drop _).take _) w)
  have HS := hide (fun w => slice_mid8 w (some ⟨g, o, none⟩) c L.length (k + 1) (k + 1 + T.run T.small (L.drop (k + 1))) (by omega) (by omega))
  rw [show k + 1 + T.run T.small (L.drop (k + 1)) - (k + 1) = T.run T.small (L.drop (k + 1)) by omega] at HS
  have hlt2 : ((L.drop (k + 1)).take (T.run T.small (L.drop (k + 1)))).length = T.run T.small (L.drop (k + 1)) := by rw [List.length_take, List.length_drop]; omega
  rw [hlt2] at HCV
  have HB0 := hide (fun o => ((Below.refl w.heap.size w).alloc (Nat.le_refl _) o))
  have SC := fun a w m X Y => show (store a (.complex .f64 X Y) m).run Tryz.prog w = stored Tryz.prog w a (.complex .f64 X Y) m from run_store _ w a _ m rfl
  rw [hpc]
  unfold oneV
  have hwb := T.wkind_bd ((L.drop (k + 1)).take (T.run T.small (L.drop (k + 1))))
  have ht : ttext (T.wkind ((L.drop (k + 1)).take (T.run T.small (L.drop (k + 1))))) ((L.drop k).take (1 + T.run T.small (L.drop (k + 1)))) = [] := by
    have := hwb.2.2 hkn
    unfold ttext; rw [if_neg (by omega)]
  simp only
  rw [ht, show K.str [] = ⟨#[]⟩ from rfl]
  have qk : (T.wkind ((L.drop (k + 1)).take (T.run T.small (L.drop (k + 1)))) == 0) = false := by simpa using hkn
  have HRN := hide (T.run_next T.small L)
  have HRE := hide (T.run_end T.small L)
  clear hpc hp hcl hr hz h37 ht hkn hwb hword hps hlt2 he hx hl
  generalize T.wkind ((L.drop (k + 1)).take (T.run T.small (L.drop (k + 1)))) = xk at *
  generalize K.str ((L.drop (k + 1)).take (T.run T.small (L.drop (k + 1)))) = st at *
  generalize hrun : T.run T.small (L.drop (k + 1)) = rn at *
  have HRUN := hide hrun
  clear hrun
  generalize Fl.fl (Pl.pos (L.take k)).1 = X at *
  generalize Fl.fl (Pl.pos (L.take k)).2 = Y at *
  go_enter Tryz.func97, Tryz.ntmps97
  go_wp2_with fail
  refine (HAT.out _ (HB0.out _)).mono ?_; rintro _ w' ⟨rfl, rfl⟩
  go_wp2_with fail
  refine (HF.out _).mono ?_; rintro _ w' ⟨rfl, rfl⟩
  go_wp2_with fail
  refine (H1.out _ ((HB0.out _).alloc (by simp) _)).mono ?_; rintro _ w' ⟨rfl, rfl⟩
  go_wp2_with fail
  go_loop [9] (fun vi => ∃ (j : Nat), j ≤ L.length ∧ k + 1 ≤ j ∧ vi = .int .i64 j ∧ j + T.run T.small (L.drop j) = k + 1 + rn) (fun vi => L.length - (intOf vi).toNat)
  case atStart => exact ⟨k + 1, by omega, by omega, by go_num, by rw [HRUN.out]⟩
  case round =>
    obtain ⟨j, hj, hkj, rfl, hrel⟩ := hrel
    have HV := hide hrel
    clear hrel
    by_cases hlt : j < L.length
    · have hcj := HC.out j hlt
      have hrn := HRN.out j hlt
      by_cases hs : 97 ≤ L.getD j 0 ∧ L.getD j 0 ≤ 122
      · have hsm : T.small (L.getD j 0) = true := by unfold T.small; simp; exact hs
        rw [hsm, if_pos rfl] at hrn
        have HN := hide hrn
        obtain ⟨hs1, hs2⟩ := hs
        clear hsm hrn hcell
        generalize L.getD j 0 = z at *
        go_wp2
        go_round
        case rel => exact ⟨j + 1, by omega, by omega, by go_num, by have := HV.out; have := HN.out; omega⟩
        case measure => simp [intOf]; omega
      · have hsm : T.small (L.getD j 0) = false := by
          rcases hq : T.small (L.getD j 0) with _ | _
          · rfl
          · exfalso; apply hs; unfold T.small at hq; simp at hq; exact hq
        rw [hsm] at hrn
        have hje : k + 1 + rn = j := by have := HV.out; rw [hrn] at this; simp at this; omega
        have S1 : ∀ w, (Instr.sliceAt 49 (.slice (some ⟨g, o, none⟩) L.length c) (some (.int .i64 ((k : Int) + 1))) (some (.int .i64 j)) none).run Tryz.prog w = .ok (.slice (dropA (some ⟨g, o, none⟩) c (k + 1)) rn (c - (k + 1))) w := fun w => by
          have h := HS.out w
          rw [hje, show ((k + 1 : Nat) : Int) = (k : Int) + 1 by omega] at h
          exact h
        have C1 := HCV.out tok0 (.cells #[.int .i64 0, .string ⟨#[]⟩, .complex .f64 X Y] 114)
        unfold tok0 at C1
        have HJ := hide hje
        clear hsm hrn hje hcell HS HCV
        generalize dropA (some ⟨g, o, none⟩) c (k + 1) = D at *
        generalize c - (k + 1) = c2 at *
        generalize L.getD j 0 = z at *
        by_cases h97 : 97 ≤ z
        · have h122 : ¬ z ≤ 122 := fun h => hs ⟨h97, h⟩
          clear hs
          go_wp2_with fail
          refine (HK.out _).mono ?_; rintro _ w' ⟨rfl, rfl⟩
          go_wp2
          refine bodyPost_ret (v := .tuple #[.agg #[.int .i64 xk, .string ⟨#[]⟩, .complex .f64 X Y], .int .i64 j, .int .i64 0]) (by simp [results, Tryz.results97, go_sem]) rfl ⟨by rw [← HJ.out, show k + (1 + rn) = k + 1 + rn by omega], ?_⟩
          exact (HB0.out _).alloc (by simp) _
        · clear hs
          go_wp2_with fail
          refine (HK.out _).mono ?_; rintro _ w' ⟨rfl, rfl⟩
          go_wp2
          refine bodyPost_ret (v := .tuple #[.agg #[.int .i64 xk, .string ⟨#[]⟩, .complex .f64 X Y], .int .i64 j, .int .i64 0]) (by simp [results, Tryz.results97, go_sem]) rfl ⟨by rw [← HJ.out, show k + (1 + rn) = k + 1 + rn by omega], ?_⟩
          exact (HB0.out _).alloc (by simp) _
    · have hre := HRE.out j (by omega)
      have hje : k + 1 + rn = j := by have := HV.out; rw [hre] at this; omega
      have S1 : ∀ w, (Instr.sliceAt 49 (.slice (some ⟨g, o, none⟩) L.length c) (some (.int .i64 ((k : Int) + 1))) (some (.int .i64 j)) none).run Tryz.prog w = .ok (.slice (dropA (some ⟨g, o, none⟩) c (k + 1)) rn (c - (k + 1))) w := fun w => by
        have h := HS.out w
        rw [hje, show ((k + 1 : Nat) : Int) = (k : Int) + 1 by omega] at h
        exact h
      have C1 := HCV.out tok0 (.cells #[.int .i64 0, .string ⟨#[]⟩, .complex .f64 X Y] 114)
      unfold tok0 at C1
      have HJ := hide hje
      clear hre hje hcell HS HCV
      generalize dropA (some ⟨g, o, none⟩) c (k + 1) = D at *
      generalize c - (k + 1) = c2 at *
      go_wp2_with fail
      refine (HK.out _).mono ?_; rintro _ w' ⟨rfl, rfl⟩
      go_wp2
      refine bodyPost_ret (v := .tuple #[.agg #[.int .i64 xk, .string ⟨#[]⟩, .complex .f64 X Y], .int .i64 j, .int .i64 0]) (by simp [results, Tryz.results97, go_sem]) rfl ⟨by rw [← HJ.out, show k + (1 + rn) = k + 1 + rn by omega], ?_⟩
      exact (HB0.out _).alloc (by simp) _

set_option maxHeartbeats 4000000 in
theorem one_name (A : Option Addr) (c : Nat) (L : List Int) (k : Nat) (w : World) (hr : RdB w w.heap.size A L) (hl : K.Bytes L) (hc : L.length ≤ c) (hn : L.length ≤ 2000) (hk : k < L.length) (he : (T.piece (L.drop k)).2.2 = 0) (hh : T.head (L.getD k 0) = true) :
    Calls Tryz.prog 97 #[.slice A L.length c, .int .i64 k] w fun e w' => e = .returned (oneV L k (T.piece (L.drop k))) ∧ Below w.heap.size w w' := by
  have hz : (L.drop k).getD 0 0 = L.getD k 0 := by rw [Go.Proofs.YtajcegofflmoeaaGreatDoor.L.cons_drop L k hk]; rfl
  have hns : T.nsize (L.drop k) = 1 + T.run T.inName (L.drop (k + 1)) := by
    rw [Go.Proofs.YtajcegofflmoeaaGreatDoor.L.cons_drop L k hk, T.nsize_cons, if_pos hh]; omega
  have hpc : T.piece (L.drop k) = (1, 1 + T.run T.inName (L.drop (k + 1)), 0) ∧ 1 + T.run T.inName (L.drop (k + 1)) ≤ 20 := by
    rw [T.piece_name _ (by rw [hz]; exact hh)] at he ⊢
    unfold T.name at he ⊢
    rw [hns] at he ⊢
    rw [if_neg (by omega)] at he ⊢
    by_cases h4 : 20 < 1 + T.run T.inName (L.drop (k + 1))
    · exfalso; simp [h4] at he
    · exact ⟨by simp [h4], by omega⟩
  obtain ⟨hpc, h20⟩ := hpc
  obtain ⟨g, o, rfl, hgl, hcl⟩ := hr (by omega)
  have hcell := hcl k hk
  have HC := hide hcl
  have hrl := T.run_le T.inName (L.drop (k + 1))
  rw [List.length_drop] at hrl
  have HAT := hide (fun (w1 : World) (h : Below w.heap.size w w1) => rat_in (some ⟨g, o, none⟩) c w.heap.size L k w1 (hr.below h (Nat.le_refl _)) hn (by omega))
  have HF := hide (first_any (L.getD k 0))
  rw [hh] at HF
  have HLT := hide (fun j => later_any (L.getD j 0))
  have HCV := hide (fun (w1 : World) (h : Below w.heap.size w w1) => str_conv (((hr.below h (Nat.le_refl _)).dropA hc k).take (1 + T.run T.inName (L.drop (k + 1)))) ((hl.drop k).take _) (c - k))
  have HS := hide (fun w => slice_mid8 w (some ⟨g, o, none⟩) c L.length k (k + (1 + T.run T.inName (L.drop (k + 1)))) (by omega) (by omega))
  rw [show k + (1 + T.run T.inName (L.drop (k + 1))) - k = 1 + T.run T.inName (L.drop (k + 1)) by omega] at HS
  have hlt2 : ((L.drop k).take (1 + T.run T.inName (L.drop (k + 1)))).length = 1 + T.run T.inName (L.drop (k + 1)) := by rw [List.length_take, List.length_drop]; omega
  rw [hlt2] at HCV
  have HB0 := hide (fun o => ((Below.refl w.heap.size w).alloc (Nat.le_refl _) o))
  have SC := fun a w m X Y => show (store a (.complex .f64 X Y) m).run Tryz.prog w = stored Tryz.prog w a (.complex .f64 X Y) m from run_store _ w a _ m rfl
  rw [hpc]
  unfold oneV
  have ht : ttext 1 ((L.drop k).take (1 + T.run T.inName (L.drop (k + 1)))) = (L.drop k).take (1 + T.run T.inName (L.drop (k + 1))) := by unfold ttext; rw [if_pos (.inl rfl)]
  simp only
  rw [ht]
  have HRN := hide (T.run_next T.inName L)
  have HRE := hide (T.run_end T.inName L)
  clear hpc hcl hr hz ht hns hlt2 he hl hh
  generalize K.str ((L.drop k).take (1 + T.run T.inName (L.drop (k + 1)))) = st at *
  generalize hrun : T.run T.inName (L.drop (k + 1)) = rn at *
  have HRUN := hide hrun
  clear hrun
  generalize Fl.fl (Pl.pos (L.take k)).1 = X at *
  generalize Fl.fl (Pl.pos (L.take k)).2 = Y at *
  generalize hzz : L.getD k 0 = z at *
  clear hzz
  go_enter Tryz.func97, Tryz.ntmps97
  go_wp2_with fail
  refine (HAT.out _ (HB0.out _)).mono ?_; rintro _ w' ⟨rfl, rfl⟩
  go_wp2_with fail
  refine (HF.out _).mono ?_; rintro _ w' ⟨rfl, rfl⟩
  go_wp2_with fail
  go_loop [9] (fun vi => ∃ (j : Nat), j ≤ L.length ∧ k + 1 ≤ j ∧ vi = .int .i64 j ∧ j + T.run T.inName (L.drop j) = k + 1 + rn) (fun vi => L.length - (intOf vi).toNat)
  case atStart => exact ⟨k + 1, by omega, by omega, by go_num, by rw [HRUN.out]⟩
  case round =>
    obtain ⟨j, hj, hkj, rfl, hrel⟩ := hrel
    have HV := hide hrel
    clear hrel hcell
    by_cases hlt : j < L.length
    · have hcj := HC.out j hlt
      have hrn := HRN.out j hlt
      have HLj := hide (HLT.out j)
      rcases hsm : T.inName (L.getD j 0) with _ | _
      · rw [hsm] at hrn HLj
        have hje : k + (1 + rn) = j := by have := HV.out; rw [hrn] at this; simp at this; omega
        have HJ := hide hje
        clear hsm hrn
        generalize L.getD j 0 = z2 at *
        go_wp2_with fail
        refine (HLj.out _).mono ?_; rintro _ w' ⟨rfl, rfl⟩
        have hgt : ¬ (j : Int) - (k : Int) > 20 := by have := HJ.out; omega
        go_upto_region 10 with fail
        have hb5 : Below w.heap.size w ((((w.alloc tok0).alloc (.cells #[.int .i64 0, .string ⟨#[]⟩, .complex .f64 X Y] 114))).drew) := below_drewN ((HB0.out tok0).alloc (by simp) _) 1
        unfold tok0 at hb5
        have S1 : ∀ w, (Instr.sliceAt 49 (.slice (some ⟨g, o, none⟩) L.length c) (some (.int .i64 k)) (some (.int .i64 j)) none).run Tryz.prog w = .ok (.slice (dropA (some ⟨g, o, none⟩) c k) (1 + rn) (c - k)) w := fun w => by
          have h := HS.out w
          rw [HJ.out] at h
          exact h
        have CC := fun y : Calm.On w.heap.size w => HCV.out y.1 y.2
        refine Calm.region_tree (fun x => ∃ y : Calm.On w.heap.size w, x = y.1) (.one [0, 1, 2, 3, 4, 5] 6 (.one [7] 8 (.fin []))) (by kernel_rfl) (by kernel_rfl) (fun _ _ d _ _ h => by cases d <;> exact h) ⟨⟨_, hb5⟩, rfl⟩ ?_
        simp only [Calm.wpT, Calm.wpSt, Calm.pickOps, List.getElem?_toArray, List.getElem?_cons_zero, List.getElem?_cons_succ]
        repeat (go_big_quiet_step (fail))
        refine wpQuiet_nil ?_
        clear CC HCV HS S1 hb5
        have HBE := hide (fun o1 o2 => below_drewN ((HB0.out o1).alloc (by simp) o2) 1)
        intro KK hKK
        try rw [if_pos (by rfl)]
        go_wp2_with fail
        refine hKK _ _ ⟨⟨_, HBE.out _ _⟩, rfl⟩ (fun x => ∃ y : Calm.On w.heap.size w, x = y.1) (fun _ h => h) ⟨⟨_, HBE.out _ _⟩, rfl⟩ ?_
        repeat (go_big_quiet_step (fail))
        refine wpQuiet_nil ?_
        intro KK hKK
        try rw [if_pos (by rfl)]
        go_wp2_with fail
        refine hKK _ _ ⟨⟨_, HBE.out _ _⟩, rfl⟩ (fun x => ∃ y : Calm.On w.heap.size w, x = y.1) (fun _ h => h) ⟨⟨_, HBE.out _ _⟩, rfl⟩ ?_
        refine wpQuiet_nil ?_
        go_wp2
        exact bodyPost_ret (v := .tuple #[.agg #[.int .i64 1, .string st, .complex .f64 X Y], .int .i64 j, .int .i64 0]) (by simp [results, Tryz.results97, go_sem]) rfl ⟨by rw [HJ.out], HBE.out _ _⟩
      · rw [hsm, if_pos rfl] at hrn
        rw [hsm] at HLj
        have HN := hide hrn
        clear hsm hrn
        generalize L.getD j 0 = z2 at *
        go_wp2_with fail
        refine (HLj.out _).mono ?_; rintro _ w' ⟨rfl, rfl⟩
        go_wp2
        go_round
        case rel => exact ⟨j + 1, by omega, by omega, by go_num, by have := HV.out; have := HN.out; omega⟩
        case measure => simp [intOf]; omega
    · have hre := HRE.out j (by omega)
      have hje : k + (1 + rn) = j := by have := HV.out; rw [hre] at this; omega
      have HJ := hide hje
      have hgt : ¬ (j : Int) - (k : Int) > 20 := by omega
      clear hre hje
      go_upto_region 10 with fail
      have hb5 : Below w.heap.size w ((((w.alloc tok0).alloc (.cells #[.int .i64 0, .string ⟨#[]⟩, .complex .f64 X Y] 114))).drew) := below_drewN ((HB0.out tok0).alloc (by simp) _) 1
      unfold tok0 at hb5
      have S1 : ∀ w, (Instr.sliceAt 49 (.slice (some ⟨g, o, none⟩) L.length c) (some (.int .i64 k)) (some (.int .i64 j)) none).run Tryz.prog w = .ok (.slice (dropA (some ⟨g, o, none⟩) c k) (1 + rn) (c - k)) w := fun w => by
        have h := HS.out w
        rw [HJ.out] at h
        exact h
      have CC := fun y : Calm.On w.heap.size w => HCV.out y.1 y.2
      refine Calm.region_tree (fun x => ∃ y : Calm.On w.heap.size w, x = y.1) (.one [0, 1, 2, 3, 4, 5] 6 (.one [7] 8 (.fin []))) (by kernel_rfl) (by kernel_rfl) (fun _ _ d _ _ h => by cases d <;> exact h) ⟨⟨_, hb5⟩, rfl⟩ ?_
      simp only [Calm.wpT, Calm.wpSt, Calm.pickOps, List.getElem?_toArray, List.getElem?_cons_zero, List.getElem?_cons_succ]
      repeat (go_big_quiet_step (fail))
      refine wpQuiet_nil ?_
      clear CC HCV HS S1 hb5
      have HBE := hide (fun o1 o2 => below_drewN ((HB0.out o1).alloc (by simp) o2) 1)
      intro KK hKK
      try rw [if_pos (by rfl)]
      go_wp2_with fail
      refine hKK _ _ ⟨⟨_, HBE.out _ _⟩, rfl⟩ (fun x => ∃ y : Calm.On w.heap.size w, x = y.1) (fun _ h => h) ⟨⟨_, HBE.out _ _⟩, rfl⟩ ?_
      repeat (go_big_quiet_step (fail))
      refine wpQuiet_nil ?_
      intro KK hKK
      try rw [if_pos (by rfl)]
      go_wp2_with fail
      refine hKK _ _ ⟨⟨_, HBE.out _ _⟩, rfl⟩ (fun x => ∃ y : Calm.On w.heap.size w, x = y.1) (fun _ h => h) ⟨⟨_, HBE.out _ _⟩, rfl⟩ ?_
      refine wpQuiet_nil ?_
      go_wp2
      exact bodyPost_ret (v := .tuple #[.agg #[.int .i64 1, .string st, .complex .f64 X Y], .int .i64 j, .int .i64 0]) (by simp [results, Tryz.results97, go_sem]) rfl ⟨by rw [HJ.out], HBE.out _ _⟩

set_option maxHeartbeats 4000000 in
theorem one_lit (A : Option Addr) (c : Nat) (L : List Int) (k : Nat) (w : World) (hr : RdB w w.heap.size A L) (hl : K.Bytes L) (hc : L.length ≤ c) (hn : L.length ≤ 2000) (hk : k < L.length) (he : (T.piece (L.drop k)).2.2 = 0) (h39 : L.getD k 0 = 39) :
    Calls Tryz.prog 97 #[.slice A L.length c, .int .i64 k] w fun e w' => e = .returned (oneV L k (T.piece (L.drop k))) ∧ Below w.heap.size w w' := by
  have hz : (L.drop k).getD 0 0 = L.getD k 0 := by rw [Go.Proofs.YtajcegofflmoeaaGreatDoor.L.cons_drop L k hk]; rfl
  have hpc : (T.isLit ((L.drop k).take 3) = true ∧ T.piece (L.drop k) = (2, 3, 0)) ∨ (T.isLit ((L.drop k).take 3) = false ∧ T.isLit ((L.drop k).take 4) = true ∧ T.piece (L.drop k) = (2, 4, 0)) := by
    rw [T.piece_39 _ (hz.trans h39)] at he ⊢
    unfold T.literal at he ⊢
    rcases h3 : T.isLit ((L.drop k).take 3) with _ | _
    · rcases h4 : T.isLit ((L.drop k).take 4) with _ | _
      · exfalso
        rw [h3, h4] at he
        simp only [Bool.false_eq_true, if_false] at he
        split at he <;> simp at he
      · right; refine ⟨rfl, rfl, ?_⟩; simp
    · left; refine ⟨rfl, ?_⟩; simp
  obtain ⟨g, o, rfl, hgl, hcl⟩ := hr (by omega)
  have hcell := hcl k hk
  rw [h39] at hcell
  have HAT := hide (fun (w1 : World) (h : Below w.heap.size w w1) => rat_in (some ⟨g, o, none⟩) c w.heap.size L k w1 (hr.below h (Nat.le_refl _)) hn (by omega))
  have HF := hide (first_any 39)
  rw [show T.head 39 = false from rfl] at HF
  have HLT := hide (fun n => rlit_any ((L.drop k).take n) ((hl.drop k).take n))
  have HCV := hide (fun (n : Nat) (hkn : k + n ≤ L.length) (w1 : World) (h : Below w.heap.size w w1) => (by
    have h1 := str_conv (((hr.below h (Nat.le_refl _)).dropA hc k).take n) ((hl.drop k).take _) (c - k)
    rw [show ((L.drop k).take n).length = n by rw [List.length_take, List.length_drop]; omega] at h1
    exact h1 : (convert 49 9 (.slice (dropA (some ⟨g, o, none⟩) c k) n (c - k))).run Tryz.prog w1 = .ok (.string (K.str ((L.drop k).take n))) w1))
  have HS := hide (fun (n : Nat) (hkn : k + n ≤ L.length) (w1 : World) => (by
    have h1 := slice_mid8 w1 (some ⟨g, o, none⟩) c L.length k (k + n) (by omega) (by omega)
    rw [show k + n - k = n by omega, Int.natCast_add] at h1
    exact h1 : (Instr.sliceAt 49 (.slice (some ⟨g, o, none⟩) L.length c) (some (.int .i64 k)) (some (.int .i64 ((k : Int) + (n : Int)))) none).run Tryz.prog w1 = .ok (.slice (dropA (some ⟨g, o, none⟩) c k) n (c - k)) w1))
  have HB0 := hide (fun o => ((Below.refl w.heap.size w).alloc (Nat.le_refl _) o))
  have SC := fun a w m X Y => show (store a (.complex .f64 X Y) m).run Tryz.prog w = stored Tryz.prog w a (.complex .f64 X Y) m from run_store _ w a _ m rfl
  have hov : ∀ n, oneV L k (2, n, 0) = .tuple #[.agg #[.int .i64 2, .string (K.str ((L.drop k).take n)), .complex .f64 (Fl.fl (Pl.pos (L.take k)).1) (Fl.fl (Pl.pos (L.take k)).2)], .int .i64 ((k : Int) + n), .int .i64 0] := fun n => by
    unfold oneV ttext
    simp
  have HPV : Hid ((T.isLit ((L.drop k).take 3) = true → oneV L k (T.piece (L.drop k)) = .tuple #[.agg #[.int .i64 2, .string (K.str ((L.drop k).take 3)), .complex .f64 (Fl.fl (Pl.pos (L.take k)).1) (Fl.fl (Pl.pos (L.take k)).2)], .int .i64 ((k : Int) + 3), .int .i64 0]) ∧ (T.isLit ((L.drop k).take 3) = false → T.isLit ((L.drop k).take 4) = true → oneV L k (T.piece (L.drop k)) = .tuple #[.agg #[.int .i64 2, .string (K.str ((L.drop k).take 4)), .complex .f64 (Fl.fl (Pl.pos (L.take k)).1) (Fl.fl (Pl.pos (L.take k)).2)], .int .i64 ((k : Int) + 4), .int .i64 0])) := hide (by
    refine ⟨fun h => ?_, fun h h' => ?_⟩
    · rcases hpc with ⟨_, e⟩ | ⟨e1, _, _⟩
      · rw [e]; exact hov 3
      · rw [h] at e1; cases e1
    · rcases hpc with ⟨e1, _⟩ | ⟨_, _, e⟩
      · rw [h] at e1; cases e1
      · rw [e]; exact hov 4)
  have HB4 : Hid (T.isLit ((L.drop k).take 3) = false → T.isLit ((L.drop k).take 4) = true) := hide (fun h => by
    rcases hpc with ⟨e1, _⟩ | ⟨_, e, _⟩
    · rw [h] at e1; cases e1
    · exact e)
  clear hpc hcl hr hz he hl h39 hov
  generalize oneV L k (T.piece (L.drop k)) = V at *
  generalize Fl.fl (Pl.pos (L.take k)).1 = X at *
  generalize Fl.fl (Pl.pos (L.take k)).2 = Y at *
  go_enter Tryz.func97, Tryz.ntmps97
  go_wp2_with fail
  refine (HAT.out _ (HB0.out _)).mono ?_; rintro _ w' ⟨rfl, rfl⟩
  go_wp2_with fail
  refine (HF.out _).mono ?_; rintro _ w' ⟨rfl, rfl⟩
  go_wp2_with fail
  go_loop [10] (fun vi => ∃ (n : Nat), (n = 3 ∨ (n = 4 ∧ T.isLit ((L.drop k).take 3) = false)) ∧ vi = .int .i64 n) (fun vi => 5 - (intOf vi).toNat)
  case atStart => exact ⟨3, .inl rfl, rfl⟩
  case round =>
    clear hcell
    obtain ⟨n, hnn, rfl⟩ := hrel
    rcases hnn with rfl | ⟨rfl, h3⟩
    · rcases h3 : T.isLit ((L.drop k).take 3) with _ | _
      · clear HPV
        have hlen4 : k + 3 ≤ L.length := by
          have h1 := T.isLit_len (HB4.out h3)
          rw [List.length_take, List.length_drop] at h1
          omega
        have C1 := HCV.out 3 hlen4 (((w.alloc tok0).alloc (.cells #[.int .i64 0, .string ⟨#[]⟩, .complex .f64 X Y] 114))) ((HB0.out tok0).alloc (by simp) _)
        unfold tok0 at C1
        have S1 : ∀ w, (Instr.sliceAt 49 (.slice (some ⟨g, o, none⟩) L.length c) (some (.int .i64 k)) (some (.int .i64 ((k : Int) + 3))) none).run Tryz.prog w = .ok (.slice (dropA (some ⟨g, o, none⟩) c k) 3 (c - k)) w := HS.out 3 hlen4
        have HLj := hide (HLT.out 3)
        rw [h3] at HLj
        have H3 := hide h3
        have hl3 : ¬ (k : Int) + 3 > (L.length : Int) := by omega
        clear h3
        generalize hst : K.str ((L.drop k).take 3) = st at *
        clear hst
        go_wp2_with fail
        refine (HLj.out _).mono ?_; rintro _ w' ⟨rfl, rfl⟩
        go_wp2
        go_round
        case rel => exact ⟨4, by simp, by go_num⟩
        case measure => simp [intOf]
      · have hA := h3
        clear h3 HB4
        have hlen : k + 3 ≤ L.length := by
          have h1 := T.isLit_len hA
          rw [List.length_take, List.length_drop] at h1
          omega
        have hV := HPV.out.1 hA
        have C1 := HCV.out 3 hlen (((w.alloc tok0).alloc (.cells #[.int .i64 0, .string ⟨#[]⟩, .complex .f64 X Y] 114))) ((HB0.out tok0).alloc (by simp) _)
        unfold tok0 at C1
        have S1 : ∀ w, (Instr.sliceAt 49 (.slice (some ⟨g, o, none⟩) L.length c) (some (.int .i64 k)) (some (.int .i64 ((k : Int) + 3))) none).run Tryz.prog w = .ok (.slice (dropA (some ⟨g, o, none⟩) c k) 3 (c - k)) w := HS.out 3 hlen
        have HLj := hide (HLT.out 3)
        rw [hA] at HLj
        have HV := hide hV
        have hl3 : ¬ (k : Int) + 3 > (L.length : Int) := by omega
        clear hA hV
        go_wp2_with fail
        refine (HLj.out _).mono ?_; rintro _ w' ⟨rfl, rfl⟩
        go_upto_region 17 with fail
        have hb5 : Below w.heap.size w ((((w.alloc tok0).alloc (.cells #[.int .i64 0, .string ⟨#[]⟩, .complex .f64 X Y] 114))).drew) := below_drewN ((HB0.out tok0).alloc (by simp) _) 1
        unfold tok0 at hb5
        have CC := fun y : Calm.On w.heap.size w => HCV.out 3 hlen y.1 y.2
        refine Calm.region_tree (fun x => ∃ y : Calm.On w.heap.size w, x = y.1) (.one [0, 1, 2, 3, 4, 5, 6, 7] 8 (.one [9] 10 (.fin []))) (by kernel_rfl) (by kernel_rfl) (fun _ _ d _ _ h => by cases d <;> exact h) ⟨⟨_, hb5⟩, rfl⟩ ?_
        simp only [Calm.wpT, Calm.wpSt, Calm.pickOps, List.getElem?_toArray, List.getElem?_cons_zero, List.getElem?_cons_succ]
        repeat (go_big_quiet_step (fail))
        refine wpQuiet_nil ?_
        clear CC HCV HS S1 hb5 C1
        have HBE := hide (fun o1 o2 => below_drewN ((HB0.out o1).alloc (by simp) o2) 1)
        intro KK hKK
        try rw [if_pos (by rfl)]
        go_wp2_with fail
        refine hKK _ _ ⟨⟨_, HBE.out _ _⟩, rfl⟩ (fun x => ∃ y : Calm.On w.heap.size w, x = y.1) (fun _ h => h) ⟨⟨_, HBE.out _ _⟩, rfl⟩ ?_
        repeat (go_big_quiet_step (fail))
        refine wpQuiet_nil ?_
        intro KK hKK
        try rw [if_pos (by rfl)]
        go_wp2_with fail
        refine hKK _ _ ⟨⟨_, HBE.out _ _⟩, rfl⟩ (fun x => ∃ y : Calm.On w.heap.size w, x = y.1) (fun _ h => h) ⟨⟨_, HBE.out _ _⟩, rfl⟩ ?_
        refine wpQuiet_nil ?_
        go_wp2
        exact bodyPost_ret (v := .tuple #[.agg #[.int .i64 2, .string (K.str ((L.drop k).take 3)), .complex .f64 X Y], .int .i64 ((k : Int) + 3), .int .i64 0]) (by simp [results, Tryz.results97, go_sem]) rfl ⟨by rw [HV.out], HBE.out _ _⟩
    · have hA := HB4.out h3
      clear HB4
      have hlen : k + 4 ≤ L.length := by
        have h1 := T.isLit_len hA
        rw [List.length_take, List.length_drop] at h1
        rcases h1 with h1 | h1
        · exfalso
          have e3 : (L.drop k).take 3 = L.drop k := List.take_of_length_le (by rw [List.length_drop]; omega)
          have e4 : (L.drop k).take 4 = L.drop k := List.take_of_length_le (by rw [List.length_drop]; omega)
          rw [e3] at h3
          rw [e4] at hA
          rw [h3] at hA; cases hA
        · omega
      have hV := HPV.out.2 h3 hA
      have C1 := HCV.out 4 hlen (((w.alloc tok0).alloc (.cells #[.int .i64 0, .string ⟨#[]⟩, .complex .f64 X Y] 114))) ((HB0.out tok0).alloc (by simp) _)
      unfold tok0 at C1
      have S1 : ∀ w, (Instr.sliceAt 49 (.slice (some ⟨g, o, none⟩) L.length c) (some (.int .i64 k)) (some (.int .i64 ((k : Int) + 4))) none).run Tryz.prog w = .ok (.slice (dropA (some ⟨g, o, none⟩) c k) 4 (c - k)) w := HS.out 4 hlen
      have HLj := hide (HLT.out 4)
      rw [hA] at HLj
      have HV := hide hV
      have hl3 : ¬ (k : Int) + 4 > (L.length : Int) := by omega
      clear hA hV h3
      go_wp2_with fail
      refine (HLj.out _).mono ?_; rintro _ w' ⟨rfl, rfl⟩
      go_upto_region 17 with fail
      have hb5 : Below w.heap.size w ((((w.alloc tok0).alloc (.cells #[.int .i64 0, .string ⟨#[]⟩, .complex .f64 X Y] 114))).drew) := below_drewN ((HB0.out tok0).alloc (by simp) _) 1
      unfold tok0 at hb5
      have CC := fun y : Calm.On w.heap.size w => HCV.out 4 hlen y.1 y.2
      refine Calm.region_tree (fun x => ∃ y : Calm.On w.heap.size w, x = y.1) (.one [0, 1, 2, 3, 4, 5, 6, 7] 8 (.one [9] 10 (.fin []))) (by kernel_rfl) (by kernel_rfl) (fun _ _ d _ _ h => by cases d <;> exact h) ⟨⟨_, hb5⟩, rfl⟩ ?_
      simp only [Calm.wpT, Calm.wpSt, Calm.pickOps, List.getElem?_toArray, List.getElem?_cons_zero, List.getElem?_cons_succ]
      repeat (go_big_quiet_step (fail))
      refine wpQuiet_nil ?_
      clear CC HCV HS S1 hb5 C1
      have HBE := hide (fun o1 o2 => below_drewN ((HB0.out o1).alloc (by simp) o2) 1)
      intro KK hKK
      try rw [if_pos (by rfl)]
      go_wp2_with fail
      refine hKK _ _ ⟨⟨_, HBE.out _ _⟩, rfl⟩ (fun x => ∃ y : Calm.On w.heap.size w, x = y.1) (fun _ h => h) ⟨⟨_, HBE.out _ _⟩, rfl⟩ ?_
      repeat (go_big_quiet_step (fail))
      refine wpQuiet_nil ?_
      intro KK hKK
      try rw [if_pos (by rfl)]
      go_wp2_with fail
      refine hKK _ _ ⟨⟨_, HBE.out _ _⟩, rfl⟩ (fun x => ∃ y : Calm.On w.heap.size w, x = y.1) (fun _ h => h) ⟨⟨_, HBE.out _ _⟩, rfl⟩ ?_
      refine wpQuiet_nil ?_
      go_wp2
      exact bodyPost_ret (v := .tuple #[.agg #[.int .i64 2, .string (K.str ((L.drop k).take 4)), .complex .f64 X Y], .int .i64 ((k : Int) + 4), .int .i64 0]) (by simp [results, Tryz.results97, go_sem]) rfl ⟨by rw [HV.out], HBE.out _ _⟩

theorem rone_any (A : Option Addr) (c : Nat) (L : List Int) (k : Nat) (w : World) (hr : RdB w w.heap.size A L) (hl : K.Bytes L) (hc : L.length ≤ c) (hn : L.length ≤ 2000) (hk : k < L.length) (he : (T.piece (L.drop k)).2.2 = 0) (hx : (T.piece (L.drop k)).1 ≠ 0) :
    Calls Tryz.prog 97 #[.slice A L.length c, .int .i64 k] w fun e w' => e = .returned (oneV L k (T.piece (L.drop k))) ∧ Below w.heap.size w w' := by
  rcases hh : T.head (L.getD k 0) with _ | _
  · by_cases h39 : L.getD k 0 = 39
    · exact one_lit A c L k w hr hl hc hn hk he h39
    · by_cases h37 : L.getD k 0 = 37
      · rcases hp : T.pre (L.drop k) [37, 37] with _ | _
        · exact one_word A c L k w hr hl hc hn hk he hx h37 hp
        · exact one_mark A c L k w hr hl hc hn hk hp
      · exact one_sign A c L k w hr hl hc hn hk he hx hh h39 h37
  · exact one_name A c L k w hr hl hc hn hk he hh
end Go.Proofs.YtajcegofflmoeaaGreatDoor

namespace Go.Proofs.YtajcegofflmoeaaGreatDoor
set_option maxRecDepth 100000
open Go.RowKit

set_option maxHeartbeats 4000000 in
theorem rtoks_any (A : Option Addr) (c : Nat) (L : List Int) (xs : List Tok) (w : World) (hr : RdB w w.heap.size A L) (hl : K.Bytes L) (hc : L.length ≤ c) (hn : L.length ≤ 2000) (hx : toks L = .ok xs) :
    Calls Tryz.prog 68 #[.slice A L.length c] w (ToksAns L (.ok xs) w) := by
  have HSK := hide (fun (w1 : World) (h : Below w.heap.size w w1) (k : Nat) (hk : k < L.length) (he : (T.piece (L.drop k)).2.2 = 0) => rskip_any A c w.heap.size L k w1 (hr.below h (Nat.le_refl _)) hl hc (by omega) hk he)
  have HON := hide (fun (w1 : World) (h : Below w.heap.size w w1) (k : Nat) (hk : k < L.length) (he : (T.piece (L.drop k)).2.2 = 0) (hx : (T.piece (L.drop k)).1 ≠ 0) => rone_any A c L k w1 (hr.up h) hl hc hn hk he hx)
  have HAT := hide (fun (w1 : World) (h : Below w.heap.size w w1) => rat_in A c w.heap.size L L.length w1 (hr.below h (Nat.le_refl _)) hn (Nat.le_refl _))
  have HFN := hide (fun (k : Nat) (hk : k < L.length) => T.piece_fine (L.drop k) (by rw [List.length_drop]; omega) (hl.drop k))
  have HX := hide hx
  have HB0 : Hid (Below w.heap.size w w) := hide (Below.refl _ _)
  have SC := fun a w m X Y => show (store a (.complex .f64 X Y) m).run Tryz.prog w = stored Tryz.prog w a (.complex .f64 X Y) m from run_store _ w a _ m rfl
  clear hr hl hx
  go_enter Tryz.func68, Tryz.ntmps68
  go_wp2
  go_loopw [5, 6, 7] (fun v vk vm wr => ∃ (f k m : Nat) (acc : List Tok), vk = .int .i64 k ∧ vm = .int .i64 m ∧ k ≤ L.length ∧ m ≤ 2 ∧ L.length < k + f ∧ acc.length ≤ k ∧ OwnT L wr w.heap.size v acc ∧ Below w.heap.size w wr ∧ scan f (L.drop k) k m acc = .ok xs) (fun _ vk _ _ => L.length - (intOf vk).toNat)
  case atStart => exact ⟨L.length + 1, 0, 0, [], rfl, rfl, by omega, by omega, by omega, by simp, OwnT.nil _ _ _, HB0.out, by have := HX.out; unfold toks at this; simpa using this⟩
  case round =>
    clear HX HB0
    obtain ⟨f, k, m, acc, rfl, rfl, hk, hmk, hf, hacc, ho, hb, hsc⟩ := hrel
    have HO := hide ho
    have HB := hide hb
    have HSC := hide hsc
    have HMK := hide hmk
    obtain ⟨A0, c0, rfl, hq1, hq2⟩ := ho.form
    clear ho hb hsc hmk hq1 hq2
    by_cases hend : L.length ≤ k ∨ 2 ≤ m
    · have hmb := HMK.out
      have hxs : xs = acc := by
        have := HSC.out
        rw [scan_end _ _ _ _ _ (by rw [List.length_drop]; omega)] at this
        injection this with this
        exact this.symm
      subst hxs
      have HATw := hide (HAT.out wr HB.out)
      rw [List.take_length] at HATw
      clear HAT HSK HON HFN HSC
      by_cases hlt : k < L.length
      · have hm2 : ¬ (m : Int) < 2 := by omega
        clear hend
        go_wp2_with fail
        refine (HATw.out).mono ?_; rintro _ w' ⟨rfl, rfl⟩
        go_wp2
        go_ret3
        exact ⟨_, rfl, HO.out, HB.out⟩
      · have hlt2 : ¬ (k : Int) < (L.length : Int) := by omega
        clear hend
        go_wp2_with fail
        refine (HATw.out).mono ?_; rintro _ w' ⟨rfl, rfl⟩
        go_wp2
        go_ret3
        exact ⟨_, rfl, HO.out, HB.out⟩
    · have hlt : k < L.length := by omega
      have hm2 : (m : Int) < 2 := by omega
      obtain ⟨f, rfl⟩ : ∃ f', f = f' + 1 := ⟨f - 1, by omega⟩
      have hne : ¬ ((L.drop k).length = 0 ∨ m = 2) := by rw [List.length_drop]; omega
      have he : (T.piece (L.drop k)).2.2 = 0 := by
        by_cases h : (T.piece (L.drop k)).2.2 = 0
        · exact h
        · have := HSC.out
          rw [scan_bad _ _ _ _ _ hne h] at this
          cases this
      have hso := HSC.out
      rw [scan_on _ _ _ _ _ hne he, List.drop_drop] at hso
      have hfine := HFN.out k hlt
      obtain ⟨h1, h2, h3, _, _, _⟩ := hfine
      obtain ⟨h4, h5, _, _⟩ := h1 he
      rw [List.length_drop] at h5
      have HSKw := hide (HSK.out wr HB.out k hlt he)
      have HONw := hide (HON.out wr HB.out k hlt he)
      clear HSK HON HFN HAT HSC h1 hne hend
      unfold oneV at HONw
      generalize T.piece (L.drop k) = x at *
      obtain ⟨xk, xn, xe⟩ := x
      simp only at he h2 h3 h4 h5
      subst he
      have HSO := hide hso
      clear hso
      by_cases hk0 : xk = 0
      · subst hk0
        have hv : skipV k (0, xn, 0) = .tuple #[.int .i64 ((k + xn : Nat) : Int), .bool true] := rfl
        rw [hv] at HSKw
        have HS2 : Hid (scan f (L.drop (k + xn)) (k + xn) m acc = .ok xs) := hide HSO.out
        have hpos : ¬ ((k + xn : Nat) : Int) < 0 := by omega
        clear hv HSO HONw
        generalize hj : k + xn = j at *
        have HJ := hide hj
        clear hj
        go_wp2_with fail
        refine HSKw.out.mono ?_; rintro _ w' ⟨rfl, rfl⟩
        go_wp2
        go_roundw
        case rel => exact ⟨f, j, m, acc, rfl, rfl, by have := HJ.out; omega, HMK.out, by have := HJ.out; omega, by have := HJ.out; omega, HO.out, HB.out, HS2.out⟩
        case measure => have := HJ.out; simp [intOf]; omega
      · have hv : skipV k (xk, xn, 0) = .tuple #[.int .i64 k, .bool false] := skipV_no hk0
        rw [hv] at HSKw
        have HO1 := hide (HONw.out hk0)
        simp only at HO1
        have HMR : Hid (more acc k (xk, xn, 0) (L.drop k) = acc ++ [⟨xk, ttext xk ((L.drop k).take xn), k⟩]) := hide (by unfold more; rw [if_neg hk0])
        rw [HMR.out] at HSO
        have hpos : ¬ ((k : Nat) : Int) < 0 := by omega
        clear hv HONw HMR hk0
        go_wp2_with fail
        refine HSKw.out.mono ?_; rintro _ w' ⟨rfl, rfl⟩
        go_wp2_with fail
        refine HO1.out.mono ?_; rintro _ w2 ⟨rfl, hb2⟩
        have HB2 := hide (HB.out.trans (hb2.mono HB.out.size))
        have HO2 := hide (HO.out.below hb2 (Nat.le_refl _))
        clear hb2 HO1 HSKw HO HB
        have HCE : Hid (∀ o j u, (tcells L ⟨xk, ttext xk ((L.drop k).take xn), k⟩)[j]? = some u → ((w2.alloc o).alloc (.cells #[.int .i64 xk, .string (K.str (ttext xk ((L.drop k).take xn))), .complex .f64 (Fl.fl (Pl.pos (L.take k)).1) (Fl.fl (Pl.pos (L.take k)).2)] 114)).cell? ⟨w2.heap.size + 1, j, none⟩ = some u) := hide (by
          intro o j u hu
          have e : w2.heap.size + 1 = (w2.alloc o).heap.size := by simp
          rw [e, World.cell?_alloc_new]
          simpa [tcells] using hu)
        have HGW := hide (fun o1 o2 => (HB2.out.alloc HB2.out.size o1).alloc (by have := HB2.out.size; simp; omega) o2)
        rcases hk9 : (xk == 9) with _ | _
        · have HMK2 : Hid (marksOn m (xk, xn, 0) = m) := hide (by unfold marksOn; rw [if_neg (by simpa using hk9)])
          rw [HMK2.out] at HSO
          go_wp2_with (at_builtin; refine apT_arm rfl (.tmp 54) (.tmp 56) _ rfl Tryz.underlying83 L w.heap.size _ acc rfl ((HO2.out.alloc _).alloc _) _ 1 ⟨xk, ttext xk ((L.drop k).take xn), k⟩ rfl (HCE.out _) (by omega) (by have := HB2.out.size; simp; omega) ?_; intro v3 w3 ho3 hg3)
          have HB3 := hide (below_grownT (HGW.out _ _) ((HO2.out.alloc _).alloc _) hg3 (by have := HB2.out.size; simp; omega))
          have HO3 := hide ho3
          clear ho3 hg3
          go_roundw
          case rel => exact ⟨f, k + xn, m, acc ++ [⟨xk, ttext xk ((L.drop k).take xn), k⟩], by go_num, rfl, by omega, by have := HMK.out; omega, by omega, by simp; omega, HO3.out, HB3.out, HSO.out⟩
          case measure => simp [intOf]; omega
        · have HMK2 : Hid (marksOn m (xk, xn, 0) = m + 1) := hide (by unfold marksOn; rw [if_pos (by simpa using hk9)])
          rw [HMK2.out] at HSO
          go_wp2_with (at_builtin; refine apT_arm rfl (.tmp 54) (.tmp 56) _ rfl Tryz.underlying83 L w.heap.size _ acc rfl ((HO2.out.alloc _).alloc _) _ 1 ⟨xk, ttext xk ((L.drop k).take xn), k⟩ rfl (HCE.out _) (by omega) (by have := HB2.out.size; simp; omega) ?_; intro v3 w3 ho3 hg3)
          have HB3 := hide (below_grownT (HGW.out _ _) ((HO2.out.alloc _).alloc _) hg3 (by have := HB2.out.size; simp; omega))
          have HO3 := hide ho3
          clear ho3 hg3
          go_roundw
          case rel => exact ⟨f, k + xn, m + 1, acc ++ [⟨xk, ttext xk ((L.drop k).take xn), k⟩], by go_num, by go_num, by omega, by have := HMK.out; omega, by omega, by simp; omega, HO3.out, HB3.out, HSO.out⟩
          case measure => simp [intOf]; omega
end Go.Proofs.YtajcegofflmoeaaGreatDoor

namespace Go.Proofs.YtajcegofflmoeaaGreatDoor
set_option maxRecDepth 100000
open Go.RowKit

theorem OwnD.less5 {L : List Int} {w : World} {base base' : Nat} {v : Value} {ds : List Y.Dcl} (h : OwnD L w base v ds) (hb : base' ≤ base) : OwnD L w base' v ds := by
  obtain ⟨qs, h1, h2, h3⟩ := h
  refine ⟨qs, h1, ⟨h2.1, ?_⟩, fun q hq => (h3 q hq).less hb⟩
  rcases h2.2 with h0 | ⟨g, cap, cur, e, hb1, hr⟩
  · exact .inl h0
  · exact .inr ⟨g, cap, cur, e, by omega, hr⟩
theorem OwnP.less5 {L : List Int} {w : World} {base base' : Nat} {v : Value} {ps : List Y.Prd} (h : OwnP L w base v ps) (hb : base' ≤ base) : OwnP L w base' v ps := by
  obtain ⟨qs, h1, h2, h3⟩ := h
  refine ⟨qs, h1, ⟨h2.1, ?_⟩, fun q hq => (h3 q hq).less hb⟩
  rcases h2.2 with h0 | ⟨g, cap, cur, e, hb1, hr⟩
  · exact .inl h0
  · exact .inr ⟨g, cap, cur, e, by omega, hr⟩
theorem src_other {w : World} {g : Nat} {cs : Array Value} (h : w.heap[g]? = some (.cells cs 66 (0, 0))) : Other w (some g) := other_of h (by decide)
end Go.Proofs.YtajcegofflmoeaaGreatDoor

namespace Go.Proofs.YtajcegofflmoeaaGreatDoor
set_option maxRecDepth 100000
open Go.RowKit

/-! ### a terminal's level -/
theorem tms_set (ts : List Gm.Tm) (n : Nat) (h : n < ts.length) (a b : Int) : ((tmsC ts).set (n * 3 + 1) (.int .i64 a)).set (n * 3 + 2) (.int .i64 b) = tmsC (ts.modify n fun t => ⟨t.nm, a, b⟩) := by
  induction ts generalizing n with
  | nil => simp at h
  | cons t r ih =>
    have e : tmsC (t :: r) = tmC t ++ tmsC r := by unfold tmsC; rw [List.flatMap_cons]
    cases n with
    | zero =>
      rw [e]
      simp [tmC, tmsC, List.modify]
    | succ n =>
      have hl : (tmC t).length = 3 := rfl
      rw [e, List.set_append_right _ _ (by omega), List.set_append_right _ _ (by omega), hl, show (n + 1) * 3 + 1 - 3 = n * 3 + 1 by omega, show (n + 1) * 3 + 2 - 3 = n * 3 + 2 by omega, ih n (by simpa using h)]
      rw [List.modify_succ_cons]
      unfold tmsC
      rw [List.flatMap_cons]
theorem tm_cells {w : World} {base : Nat} {v : Value} {ts : List Gm.Tm} (h : OwnTm w base v ts) (n : Nat) (hn : n < ts.length) : ∃ g c, v = .slice (some ⟨g, 0, none⟩) ts.length c ∧ ts.length ≤ c ∧ w.cell? ⟨g, n * 3 + 1, none⟩ = some (.int .i64 ts[n].lv) ∧ w.cell? ⟨g, n * 3 + 2, none⟩ = some (.int .i64 ts[n].wy) ∧ (∀ j, w.frozen? ⟨g, j, none⟩ = false) ∧ base ≤ g ∧ g < w.heap.size ∧ ∃ cur, w.heap[g]? = some (.cells cur 79 (0, 0)) := by
  rcases h.2 with ⟨_, h0⟩ | ⟨g, cap, cur, rfl, hb, hg, hnc, hm, hs, ht⟩
  · omega
  · refine ⟨g, cap, rfl, hnc, ?_, ?_, fun j => frozen_of_row w g j _ _ hg, hb, (Array.getElem?_eq_some_iff.1 hg).1, cur, hg⟩
    · rw [World.ownsRow.cellAt h (n * 3 + 1) (by omega)]
      exact three_at tmC (fun _ => rfl) ts n 1 hn (by omega)
    · rw [World.ownsRow.cellAt h (n * 3 + 2) (by omega)]
      exact three_at tmC (fun _ => rfl) ts n 2 hn (by omega)
end Go.Proofs.YtajcegofflmoeaaGreatDoor

namespace Go.Proofs.YtajcegofflmoeaaGreatDoor
set_option maxRecDepth 100000
open Go.RowKit

def rfX (L : List Int) (x : Tok) : Nat := Fl.fl (Pl.pos (L.take x.o)).1
def rfY (L : List Int) (x : Tok) : Nat := Fl.fl (Pl.pos (L.take x.o)).2
/-! ### the document's own words -/
end Go.Proofs.YtajcegofflmoeaaGreatDoor

namespace Go.Proofs.YtajcegofflmoeaaGreatDoor
set_option maxRecDepth 100000
open Go.RowKit

/-! ### a source that is read -/
def RdRf (L : List Int) (w : World) (B : Nat) (A : Option Addr) (xs : List Tok) : Prop :=
  xs.length ≠ 0 → ∃ g o, A = some ⟨g, o, none⟩ ∧ g < B ∧ ∀ i (h : i < xs.length), w.cell? ⟨g, o + i * 2, none⟩ = some (.string (K.str xs[i].t)) ∧ w.cell? ⟨g, o + i * 2 + 1, none⟩ = some (.complex .f64 (rfX L xs[i]) (rfY L xs[i]))
def RdDl (L : List Int) (w : World) (B : Nat) (A : Option Addr) (ds : List Y.Dcl) : Prop :=
  ds.length ≠ 0 → ∃ g o, A = some ⟨g, o, none⟩ ∧ g < B ∧ ∀ i (h : i < ds.length), w.cell? ⟨g, o + i * 2, none⟩ = some (.int .i64 ds[i].k) ∧ ∃ A' c', w.cell? ⟨g, o + i * 2 + 1, none⟩ = some (.slice A' ds[i].ns.length c') ∧ RdRf L w B A' ds[i].ns
theorem RdRf.keep {L : List Int} {w w' : World} {B : Nat} {A : Option Addr} {xs : List Tok} (h : RdRf L w B A xs) (hb : Below B w w') : RdRf L w' B A xs := fun hn => by
  obtain ⟨g, o, e, hg, hc⟩ := h hn
  exact ⟨g, o, e, hg, fun i hi => ⟨(hb.cell (p := ⟨g, o + i * 2, none⟩) hg).trans (hc i hi).1, (hb.cell (p := ⟨g, o + i * 2 + 1, none⟩) hg).trans (hc i hi).2⟩⟩
theorem RdDl.keep {L : List Int} {w w' : World} {B : Nat} {A : Option Addr} {xs : List Y.Dcl} (h : RdDl L w B A xs) (hb : Below B w w') : RdDl L w' B A xs := fun hn => by
  obtain ⟨g, o, e, hg, hc⟩ := h hn
  refine ⟨g, o, e, hg, fun i hi => ?_⟩
  obtain ⟨h1, A', c', h2, h3⟩ := hc i hi
  exact ⟨(hb.cell (p := ⟨g, o + i * 2, none⟩) hg).trans h1, A', c', (hb.cell (p := ⟨g, o + i * 2 + 1, none⟩) hg).trans h2, h3.keep hb⟩

end Go.Proofs.YtajcegofflmoeaaGreatDoor

namespace Go.Proofs.YtajcegofflmoeaaGreatDoor
set_option maxRecDepth 100000
open Go.RowKit

theorem decl1_lv {k : Int} {s s' : Gm.S1} {x : Tok} (h : Gm.decl1 k s x = .ok s') : s'.lv = s.lv := by
  unfold Gm.decl1 at h
  split at h
  · split at h
    · cases h
    · injection h with h; subst h; rfl
  · split at h
    · split at h
      · cases h
      · obtain ⟨p, _, h⟩ := Gm.R.bind_eq h
        injection h with h; subst h; rfl
    · split at h
      · cases h
      · obtain ⟨p, _, h⟩ := Gm.R.bind_eq h
        injection h with h; subst h; rfl
theorem declN_lv {k : Int} : ∀ (xs : List Tok) {s s' : Gm.S1}, Gm.declN k s xs = .ok s' → s'.lv = s.lv
  | [], s, s', h => by rw [Gm.declN] at h; injection h with h; subst h; rfl
  | x :: r, s, s', h => by
    rw [Gm.declN] at h
    obtain ⟨s1, h1, h2⟩ := Gm.R.bind_eq h
    rw [declN_lv r h2, decl1_lv h1]
theorem decls_drop {s : Gm.S1} {ds : List Y.Dcl} {i : Nat} (h : i < ds.length) : Gm.decls s (ds.drop i) = (Gm.declN ds[i].k (Gm.up ds[i].k s) ds[i].ns).bind fun s => Gm.decls s (ds.drop (i + 1)) := by
  rw [List.drop_eq_getElem_cons h, Gm.decls]
end Go.Proofs.YtajcegofflmoeaaGreatDoor

namespace Go.Proofs.YtajcegofflmoeaaGreatDoor
set_option maxRecDepth 100000
open Go.RowKit

def RdPd (L : List Int) (w : World) (B : Nat) (A : Option Addr) (ps : List Y.Prd) : Prop :=
  ps.length ≠ 0 → ∃ g o, A = some ⟨g, o, none⟩ ∧ g < B ∧ ∀ i (h : i < ps.length), w.cell? ⟨g, o + i * 5, none⟩ = some (.string (K.str ps[i].l.t)) ∧ w.cell? ⟨g, o + i * 5 + 1, none⟩ = some (.complex .f64 (rfX L ps[i].l) (rfY L ps[i].l)) ∧ (∃ A' c', w.cell? ⟨g, o + i * 5 + 2, none⟩ = some (.slice A' ps[i].r.length c') ∧ RdRf L w B A' ps[i].r) ∧ w.cell? ⟨g, o + i * 5 + 3, none⟩ = some (.string (soS ps[i].p)) ∧ w.cell? ⟨g, o + i * 5 + 4, none⟩ = some (.complex .f64 (soX L ps[i].p) (soY L ps[i].p))
theorem RdPd.keep {L : List Int} {w w' : World} {B : Nat} {A : Option Addr} {xs : List Y.Prd} (h : RdPd L w B A xs) (hb : Below B w w') : RdPd L w' B A xs := fun hn => by
  obtain ⟨g, o, e, hg, hc⟩ := h hn
  refine ⟨g, o, e, hg, fun i hi => ?_⟩
  obtain ⟨h1, h2, ⟨A', c', h3, h4⟩, h5, h6⟩ := hc i hi
  exact ⟨(hb.cell (p := ⟨g, o + i * 5, none⟩) hg).trans h1, (hb.cell (p := ⟨g, o + i * 5 + 1, none⟩) hg).trans h2, ⟨A', c', (hb.cell (p := ⟨g, o + i * 5 + 2, none⟩) hg).trans h3, h4.keep hb⟩, (hb.cell (p := ⟨g, o + i * 5 + 3, none⟩) hg).trans h5, (hb.cell (p := ⟨g, o + i * 5 + 4, none⟩) hg).trans h6⟩
theorem left1_len {ts : List Gm.Tm} {ns ns' : List (List Int)} {x : Tok} (h : Gm.left1 ts ns x = .ok ns') (hl : ns.length ≤ 16) : ns'.length ≤ 16 := by
  rcases Gm.left1_ok h with ⟨rfl, _⟩ | ⟨rfl, _, _, h4⟩
  · exact hl
  · rw [List.length_append, List.length_singleton]; omega
theorem lefts_drop {ts : List Gm.Tm} {ns : List (List Int)} {ps : List Y.Prd} {i : Nat} (h : i < ps.length) : Gm.lefts ts ns (ps.drop i) = (Gm.left1 ts ns ps[i].l).bind fun ns => Gm.lefts ts ns (ps.drop (i + 1)) := by
  rw [List.drop_eq_getElem_cons h, Gm.lefts]
theorem lefts_end {ts : List Gm.Tm} {ns : List (List Int)} {ps : List Y.Prd} {i : Nat} (h : ps.length ≤ i) : Gm.lefts ts ns (ps.drop i) = .ok ns := by
  rw [List.drop_eq_nil_of_le h, Gm.lefts]
def pdCells (L : List Int) (p : Y.Prd) (A : Option Addr) (c : Nat) : Array Value := #[.string (K.str p.l.t), .complex .f64 (rfX L p.l) (rfY L p.l), .slice A p.r.length c, .string (soS p.p), .complex .f64 (soX L p.p) (soY L p.p)]

end Go.Proofs.YtajcegofflmoeaaGreatDoor

namespace Go.Proofs.YtajcegofflmoeaaGreatDoor
set_option maxRecDepth 100000
open Go.RowKit

theorem apRl_wp {w : World} {o : Oper} {a : Act} {Q : Exit → Act → World → Prop} {K : Act → World → Prop}
    (s x : Operand) (t : TypeId) (ho : o.op = .call { callee := .builtin .append, args := #[s, x], argTypes := #[t, t] }) (ht : Tryz.prog.underlying t = some (.slice 51))
    (base N : Nat) (v : Value) (rs : List Gm.Rl) (hs : a.eval s = v) (hown : OwnRl w base N v rs) (g c : Nat) (q : RA) (hx : a.eval x = .slice (some ⟨g, 0, none⟩) 1 c) (hz : ∀ j u, (rlC q)[j]? = some u → w.cell? ⟨g, j, none⟩ = some u) (hr : q.1.r.length ≤ q.2.2 ∧ q.2.2 ≤ 9223372036854775807 ∧ RowI w base w.heap.size q.2.1 q.1.r)
    (hlen : rs.length ≤ 1000000) (hbase : base ≤ w.heap.size) (hN : N ≤ w.heap.size)
    (hK : ∀ v' w', OwnRl w' base w'.heap.size v' (rs ++ [q.1]) → w.grownBy w' v.ownBlock → K (a.put o.dst v') w') :
    o.wp Tryz.prog a w K Q := by
  obtain ⟨i, hi, hz0, hz1, hz2⟩ := info_parts infoRl
  obtain ⟨qs, hq1, hq2, hq3, hq4⟩ := hown
  have hlq : qs.length = rs.length := by rw [← hq1, List.length_map]
  refine wp_append_own w s x t ho base 51 i _ 3 40 ht hi hz0 hz1 hz2 rfl (by decide) v rs.length (rlsC qs) hs hq2 ⟨g, 0, none⟩ 1 c (rlC q) hx rfl ?_ ?_ (by unfold maxLen; omega) (by omega) hbase fun v' w' h1 h2 _ => hK v' w' ?_ h2
  · intro j u hj
    rw [addZ, Nat.zero_add]
    exact hz j u hj
  · intro u hu; simp [rlC] at hu; rcases hu with rfl | rfl | rfl <;> rfl
  · have hng : ∀ g', v.ownBlock = some g' → (∀ cur, w.heap[g']? ≠ some (.cells cur 3 (0, 0))) ∨ w.heap.size ≤ g' := fun g' e => by
      obtain ⟨_, cur, hc⟩ := own_holds hq2 e
      exact .inl (cells_ne hc (by decide))
    refine ⟨qs ++ [q], by rw [List.map_append, hq1]; rfl, ?_, fun k hk => ?_, fun p hp => ?_⟩
    · rw [List.length_append]
      unfold rlsC
      rw [List.flatMap_append, List.flatMap_singleton]
      exact h1
    · obtain ⟨_, cur, hc⟩ := own_holds h1 hk
      exact (Array.getElem?_eq_some_iff.1 hc).1
    · rcases List.mem_append.1 hp with h | h
      · obtain ⟨a1, a2, a3⟩ := hq4 p h
        exact ⟨a1, a2, ((a3.more hN).grown h2 hng).more h2.size⟩
      · rw [List.mem_singleton] at h
        subst h
        exact ⟨hr.1, hr.2.1, (hr.2.2.grown h2 hng).more h2.size⟩


theorem OwnI.row {w : World} {base B : Nat} {v : Value} {xs : List Int} (h : OwnI w base v xs) (hB : B ≤ base) : ∃ A c, v = .slice A xs.length c ∧ xs.length ≤ c ∧ c ≤ 9223372036854775807 ∧ RowI w B w.heap.size A xs := by
  rcases h.2 with ⟨rfl, h0⟩ | ⟨g, cap, cur, rfl, hb, hg, hn, hm, hs, ht⟩
  · exact ⟨none, 0, by rw [h0], by omega, by omega, fun hc => absurd h0 hc⟩
  · refine ⟨some ⟨g, 0, none⟩, cap, rfl, hn, by unfold maxLen at hm; omega, fun _ => ⟨g, cur, rfl, by omega, (Array.getElem?_eq_some_iff.1 hg).1, hg, fun j hj => ?_⟩⟩
    have hq : (cur.toList.take (xs.length * 1))[j]? = (xs.map (Value.int .i64))[j]? := by rw [ht]
    rw [List.getElem?_take_of_lt (by omega), List.getElem?_map, List.getElem?_eq_getElem hj] at hq
    simpa using hq
theorem rights_drop {ns : List (List Int)} {ts : List Gm.Tm} {acc : List Int} {p : Int} {xs : List Tok} {i : Nat} (h : i < xs.length) : Gm.rights ns ts acc p (xs.drop i) = if acc.length = 6 then .bad xs[i] 5 else (Gm.symR ns ts xs[i]).bind fun q => Gm.rights ns q.1 (acc ++ [q.2]) (if 0 ≤ q.2 then q.2 else p) (xs.drop (i + 1)) := by
  rw [List.drop_eq_getElem_cons h, Gm.rights]
theorem rights_end {ns : List (List Int)} {ts : List Gm.Tm} {acc : List Int} {p : Int} {xs : List Tok} {i : Nat} (h : xs.length ≤ i) : Gm.rights ns ts acc p (xs.drop i) = .ok (ts, acc, p) := by
  rw [List.drop_eq_nil_of_le h, Gm.rights]
theorem build_rl (z : Int) (w : World) : (Instr.build 51 #[(0, .int .i64 z), (2, .int .i64 (-1))]).run Tryz.prog w = .ok (.agg #[.int .i64 z, .slice none 0 0, .int .i64 (-1)]) w := run_build w 51 _ _ (by kernel_rfl)
theorem ownrl_form {w : World} {base N : Nat} {v : Value} {rs : List Gm.Rl} (h : OwnRl w base N v rs) : ∃ A c, v = .slice A rs.length c ∧ rs.length ≤ c ∧ c ≤ maxLen := by
  obtain ⟨qs, _, h2, _⟩ := h
  exact own_form h2
end Go.Proofs.YtajcegofflmoeaaGreatDoor

namespace Go.Proofs.YtajcegofflmoeaaGreatDoor
set_option maxRecDepth 100000
open Go.RowKit

theorem OwnI.set_away {w : World} {base g : Nat} {v : Value} {xs : List Int} {cs : Array Value} (h : OwnI w base v xs) (hg : w.heap[g]? = some (.cells cs 51 (0, 0))) (j : Nat) (u : Value) : OwnI (w.setCell ⟨g, j, none⟩ u) base v xs :=
  World.ownsRow.kept h (only_set (World.grownBy.refl _ _) j u) (own_away h hg (fun cur e => by injection e with _ e; cases e))

theorem ints_own_nil (w : World) (base : Nat) : OwnI w base (.slice none 0 0) [] := OwnI.nil w base
end Go.Proofs.YtajcegofflmoeaaGreatDoor

namespace Go.Proofs.YtajcegofflmoeaaGreatDoor
set_option maxRecDepth 100000
open Go.RowKit

theorem rf_of_own {L : List Int} {w : World} {base : Nat} {A : Option Addr} {xs : List Tok} (h : RdR L w base A xs) : RdRf L w w.heap.size A xs := fun hn => by
  obtain ⟨g, cur, e, _, hh, _⟩ := h hn
  obtain ⟨g', e', _, hc⟩ := h.cell hn
  rw [e] at e'
  injection e' with e'
  injection e' with e'
  subst e'
  refine ⟨g, 0, e, (Array.getElem?_eq_some_iff.1 hh).1, fun i hi => ⟨?_, ?_⟩⟩
  · have := hc i 0 _ hi (by omega) rfl
    rw [Nat.zero_add]; exact this
  · have := hc i 1 _ hi (by omega) rfl
    rw [Nat.zero_add]; exact this
theorem dl_of_own {L : List Int} {w : World} {base : Nat} {v : Value} {ds : List Y.Dcl} (h : OwnD L w base v ds) : ∃ A c, v = .slice A ds.length c ∧ RdDl L w w.heap.size A ds := by
  have h' := h
  obtain ⟨qs, _, h2, _⟩ := h'
  rcases h2.2 with ⟨hv, h0⟩ | ⟨g, cap, cur, hv, _, hg, _⟩
  · exact ⟨none, 0, by rw [hv, h0], fun hn => absurd h0 hn⟩
  · refine ⟨some ⟨g, 0, none⟩, cap, hv, fun hn => ⟨g, 0, rfl, (Array.getElem?_eq_some_iff.1 hg).1, fun i hi => ?_⟩⟩
    obtain ⟨D, c, A, c', hv', k1, k2, k3⟩ := h.at i hi
    rw [hv] at hv'
    injection hv' with e1 e2 e3
    injection e1 with e1
    injection e1 with e1
    subst e1
    rw [Nat.zero_add]
    exact ⟨k1, A, c', k2, rf_of_own k3⟩
theorem pd_of_own {L : List Int} {w : World} {base : Nat} {v : Value} {ps : List Y.Prd} (h : OwnP L w base v ps) : ∃ A c, v = .slice A ps.length c ∧ RdPd L w w.heap.size A ps := by
  have h' := h
  obtain ⟨qs, _, h2, _⟩ := h'
  rcases h2.2 with ⟨hv, h0⟩ | ⟨g, cap, cur, hv, _, hg, _⟩
  · exact ⟨none, 0, by rw [hv, h0], fun hn => absurd h0 hn⟩
  · refine ⟨some ⟨g, 0, none⟩, cap, hv, fun hn => ⟨g, 0, rfl, (Array.getElem?_eq_some_iff.1 hg).1, fun i hi => ?_⟩⟩
    obtain ⟨D, c, A, c', hv', k, k3⟩ := h.at i hi
    rw [hv] at hv'
    injection hv' with e1 e2 e3
    injection e1 with e1
    injection e1 with e1
    subst e1
    rw [Nat.zero_add]
    refine ⟨k 0 _ (by omega) rfl, k 1 _ (by omega) rfl, ⟨A, c', k 2 _ (by omega) rfl, rf_of_own k3⟩, ?_, ?_⟩
    · refine k 3 _ (by omega) ?_
      unfold pcells precells
      rcases ps[i].p with _ | x <;> rfl
    · refine k 4 _ (by omega) ?_
      unfold pcells precells
      rcases ps[i].p with _ | x <;> rfl
theorem rdi_of_row {w : World} {base N : Nat} {A : Option Addr} {zs : List Int} (h : RowI w base N A zs) (hN : N ≤ w.heap.size) : RdI w w.heap.size A zs := fun hn => by
  obtain ⟨g, cur, e, _, hg, hh, hc⟩ := h hn
  refine ⟨g, 0, e, by omega, fun j hj => ?_⟩
  rw [Nat.zero_add, cell_of_row w g _ _ _ _ hh]
  rw [hc j hj]
  simp [List.getD, hj]
theorem tm_of_own {w : World} {base : Nat} {v : Value} {ts : List Gm.Tm} (h : OwnTm w base v ts) : ∃ A c, v = .slice A ts.length c ∧ (ts.length ≤ c ∧ c ≤ 9223372036854775807) ∧ RdTm w w.heap.size A ts := by
  have h0 := h
  unfold OwnTm at h0
  rcases h0.2 with ⟨hv, h1⟩ | ⟨g, cap, cur, hv, _, hg, hn, hm, _⟩
  · exact ⟨none, 0, by rw [hv, h1], by omega, fun hn => absurd h1 hn⟩
  · refine ⟨some ⟨g, 0, none⟩, cap, hv, ⟨hn, by unfold maxLen at hm; omega⟩, fun _ => ⟨g, 0, rfl, (Array.getElem?_eq_some_iff.1 hg).1, fun i hi => ?_⟩⟩
    subst hv
    have k := fun (j : Nat) (u : Value) (hj : j < 3) (hu : (tmC ts[i])[j]? = some u) => World.ownsRow.cells h0 (g := g) rfl (i * 3 + j) u (by unfold tmsC; rw [three_at tmC (fun _ => rfl) ts i j hi hj]; exact hu)
    have k0 := k 0 _ (by omega) rfl
    have k1 := k 1 _ (by omega) rfl
    have k2 := k 2 _ (by omega) rfl
    rw [addZ, Nat.zero_add] at k0 k1 k2
    rw [Nat.zero_add]
    exact ⟨k0, k1, k2⟩
theorem n_of_own {w : World} {base : Nat} {v : Value} {ns : List (List Int)} (h : OwnN w base v ns) : ∃ A c, v = .slice A ns.length c ∧ (ns.length ≤ c ∧ c ≤ 9223372036854775807) ∧ RdN w w.heap.size A ns := by
  have h0 := h
  unfold OwnN at h0
  rcases h0.2 with ⟨hv, h1⟩ | ⟨g, cap, cur, hv, _, hg, hn, hm, _⟩
  · exact ⟨none, 0, by rw [hv, h1], by omega, fun hn => absurd h1 hn⟩
  · refine ⟨some ⟨g, 0, none⟩, cap, hv, ⟨hn, by unfold maxLen at hm; omega⟩, fun _ => ⟨g, 0, rfl, (Array.getElem?_eq_some_iff.1 hg).1, fun i hi => ?_⟩⟩
    subst hv
    have k := World.ownsRow.cells h0 (g := g) rfl i (.string (K.str ns[i])) (by unfold nmsC; simp [hi])
    rw [addZ, Nat.zero_add] at k
    rw [Nat.zero_add]
    exact k
theorem rl_of_own {w : World} {base N : Nat} {v : Value} {rs : List Gm.Rl} (h : OwnRl w base N v rs) (hN : N ≤ w.heap.size) : ∃ A c, v = .slice A rs.length c ∧ (rs.length ≤ c ∧ c ≤ 9223372036854775807) ∧ RdRl w w.heap.size A rs := by
  obtain ⟨qs, rfl, h0, _, hq⟩ := h
  rcases h0.2 with ⟨hv, h1⟩ | ⟨g, cap, cur, hv, _, hg, hn, hm, _⟩
  · exact ⟨none, 0, by rw [hv, h1], by omega, fun hn => absurd h1 hn⟩
  · refine ⟨some ⟨g, 0, none⟩, cap, hv, ⟨hn, by unfold maxLen at hm; omega⟩, fun _ => ⟨g, 0, rfl, (Array.getElem?_eq_some_iff.1 hg).1, fun i hi => ?_⟩⟩
    subst hv
    have hi' : i < qs.length := by simpa using hi
    have k := fun (j : Nat) (u : Value) (hj : j < 3) (hu : (rlC qs[i])[j]? = some u) => World.ownsRow.cells h0 (g := g) rfl (i * 3 + j) u (by unfold rlsC; rw [three_at rlC (fun _ => rfl) qs i j hi' hj]; exact hu)
    have k0 := k 0 _ (by omega) rfl
    have k1 := k 1 _ (by omega) rfl
    have k2 := k 2 _ (by omega) rfl
    rw [addZ, Nat.zero_add] at k0 k1 k2
    rw [Nat.zero_add]
    obtain ⟨q1, q2, q3⟩ := hq qs[i] (List.getElem_mem hi')
    simp only [List.getElem_map]
    exact ⟨k0, ⟨_, _, k1, q1, q2, rdi_of_row q3 hN⟩, k2⟩
end Go.Proofs.YtajcegofflmoeaaGreatDoor

namespace Go.Proofs.YtajcegofflmoeaaGreatDoor
set_option maxRecDepth 100000
open Go.RowKit

def wC (vT vN vR : Value) (lv : Int) : Array Value := #[vT, vN, vR, .int .i64 0, .slice none 0 0, .string ⟨#[]⟩, .complex .f64 0 0, .bool false, .int .i64 lv, .complex .f64 0 0, .int .i64 0]
structure WRaw (w : World) (B N R : Nat) (cs : Array Value) (vT vN vR : Value) (ts : List Gm.Tm) (ns : List (List Int)) (rs : List Gm.Rl) : Prop where
  b : w.heap[R]? = some (.cells cs 91 (0, 0))
  t : OwnTm w B vT ts
  n : OwnN w B vN ns
  r : OwnRl w B N vR rs
  hR : B ≤ R
structure Off9 (w : World) (N : Nat) (row : Option Nat) : Prop where
  h : ∀ g, row = some g → ∃ cs T, w.heap[g]? = some (.cells cs T (0, 0)) ∧ T ≠ 91 ∧ T ≠ 79 ∧ T ≠ 9 ∧ ((T ≠ 51 ∧ T ≠ 3) ∨ N ≤ g)
theorem Off9.none (w : World) (N : Nat) : Off9 w N .none := ⟨fun _ h => by cases h⟩
section
variable {w w' : World} {B N R : Nat} {cs : Array Value} {vT vN vR : Value} {ts : List Gm.Tm} {ns : List (List Int)} {rs : List Gm.Rl} {row : Option Nat}
theorem WRaw.grown (h : WRaw w B N R cs vT vN vR ts ns rs) (hg : w.grownBy w' row) (ho : Off9 w N row) : WRaw w' B N R cs vT vN vR ts ns rs := by
  have hb : some R ≠ row := fun e => by
    obtain ⟨cs, T, h1, h2, _⟩ := ho.h R e.symm
    exact cells_ne h1 h2 _ h.b
  refine ⟨(hg.block R (Array.getElem?_eq_some_iff.1 h.b).1 hb).trans h.b, World.ownsRow.kept h.t hg ?_, World.ownsRow.kept h.n hg ?_, h.r.grown hg ?_, h.hR⟩
  · rcases row with _ | g
    · exact none_away _
    · obtain ⟨cs, T, h1, _, h2, _⟩ := ho.h g rfl
      exact own_away h.t h1 (fun cur e => by injection e with _ e; exact h2 e)
  · rcases row with _ | g
    · exact none_away _
    · obtain ⟨cs, T, h1, _, _, h2, _⟩ := ho.h g rfl
      exact own_away h.n h1 (fun cur e => by injection e with _ e; exact h2 e)
  · intro g e
    obtain ⟨cs, T, h1, _, _, _, h2⟩ := ho.h g e
    rcases h2 with q | q
    · exact .inl ⟨cells_ne h1 q.2, cells_ne h1 q.1⟩
    · exact .inr q
theorem WRaw.below (h : WRaw w B N R cs vT vN vR ts ns rs) (hb : Below w.heap.size w w') : WRaw w' B N R cs vT vN vR ts ns rs := h.grown (only_below hb .none) (Off9.none _ _)
theorem WRaw.alloc (h : WRaw w B N R cs vT vN vR ts ns rs) (o : Obj) : WRaw (w.alloc o) B N R cs vT vN vR ts ns rs := h.grown (World.grownBy_alloc w o .none) (Off9.none _ _)
theorem WRaw.tm_put (h : WRaw w B N R cs vT vN vR ts ns rs) {v' : Value} {ts' : List Gm.Tm} (ht : OwnTm w' B v' ts') (hg : w.grownBy w' vT.ownBlock) : WRaw w' B N R cs v' vN vR ts' ns rs := by
  refine ⟨cells_row h.b h.t (by decide) hg, ht, World.ownsRow.kept h.n hg (other_row h.n h.t (by decide)), h.r.grown hg (fun g e => .inl ?_), h.hR⟩
  obtain ⟨_, cur, hc⟩ := own_holds h.t e
  exact ⟨cells_ne hc (by decide), cells_ne hc (by decide)⟩
theorem WRaw.n_put (h : WRaw w B N R cs vT vN vR ts ns rs) {v' : Value} {ns' : List (List Int)} (ht : OwnN w' B v' ns') (hg : w.grownBy w' vN.ownBlock) : WRaw w' B N R cs vT v' vR ts ns' rs := by
  refine ⟨cells_row h.b h.n (by decide) hg, World.ownsRow.kept h.t hg (other_row h.t h.n (by decide)), ht, h.r.grown hg (fun g e => .inl ?_), h.hR⟩
  obtain ⟨_, cur, hc⟩ := own_holds h.n e
  exact ⟨cells_ne hc (by decide), cells_ne hc (by decide)⟩
theorem WRaw.r_put {N' : Nat} (h : WRaw w B N R cs vT vN vR ts ns rs) {v' : Value} {rs' : List Gm.Rl} (ht : OwnRl w' B N' v' rs') (hg : w.grownBy w' vR.ownBlock) : WRaw w' B N' R cs vT vN v' ts ns rs' := by
  obtain ⟨qs, _, h2, _⟩ := id h.r
  exact ⟨cells_row h.b h2 (by decide) hg, World.ownsRow.kept h.t hg (other_row h.t h2 (by decide)), World.ownsRow.kept h.n hg (other_row h.n h2 (by decide)), ht, h.hR⟩
theorem WRaw.set (h : WRaw w B N R cs vT vN vR ts ns rs) (j : Nat) (u : Value) : WRaw (w.setCell ⟨R, j, none⟩ u) B N R (cs.setIfInBounds j u) vT vN vR ts ns rs := by
  have hg : w.grownBy (w.setCell ⟨R, j, none⟩ u) (some R) := only_set (World.grownBy.refl _ _) j u
  refine ⟨heap_setCell_same w R j _ _ u h.b, World.ownsRow.kept h.t hg (own_away h.t h.b (fun cur e => by injection e with _ e; cases e)), World.ownsRow.kept h.n hg (own_away h.n h.b (fun cur e => by injection e with _ e; cases e)), h.r.grown hg (fun g e => .inl ?_), h.hR⟩
  injection e with e
  subst e
  exact ⟨cells_ne h.b (by decide), cells_ne h.b (by decide)⟩
theorem WRaw.more {N' : Nat} (h : WRaw w B N R cs vT vN vR ts ns rs) (hN : N ≤ N') : WRaw w B N' R cs vT vN vR ts ns rs := ⟨h.b, h.t, h.n, h.r.more hN, h.hR⟩
theorem WRaw.at (h : WRaw w B N R cs vT vN vR ts ns rs) (j : Nat) : w.cell? ⟨R, j, none⟩ = cs[j]? ∧ w.frozen? ⟨R, j, none⟩ = false ∧ R < w.heap.size :=
  ⟨cell_of_row w R j _ _ _ h.b, frozen_of_row w R j _ _ h.b, (Array.getElem?_eq_some_iff.1 h.b).1⟩
theorem WRaw.lt (h : WRaw w B N R cs vT vN vR ts ns rs) : R < w.heap.size := (Array.getElem?_eq_some_iff.1 h.b).1
theorem WRaw.rd (h : WRaw w B N R cs vT vN vR ts ns rs) (hN : N ≤ w.heap.size) (z : Int) : RdGr w w.heap.size (.agg #[vT, vN, vR, .int .i64 z]) ⟨ts, ns, rs, z⟩ := by
  obtain ⟨AT, cT, rfl, h1, h2⟩ := tm_of_own h.t
  obtain ⟨AN, cN, rfl, h3, h4⟩ := n_of_own h.n
  obtain ⟨AR, cR, rfl, h5, h6⟩ := rl_of_own h.r hN
  exact ⟨AT, cT, AN, cN, AR, cR, rfl, h1, h3, h5, h2, h4, h6⟩
end
def KpT (w w' : World) : Prop := ∀ (g : Nat) (cs : Array Value) (T : TypeId), w.heap[g]? = some (.cells cs T (0, 0)) → T ≠ 91 → T ≠ 79 → w'.heap[g]? = some (.cells cs T (0, 0))
def KpA (w w' : World) : Prop := ∀ (g : Nat) (cs : Array Value) (T : TypeId), w.heap[g]? = some (.cells cs T (0, 0)) → T ≠ 91 → T ≠ 79 → T ≠ 9 → T ≠ 51 → w'.heap[g]? = some (.cells cs T (0, 0))
theorem KpT.refl (w : World) : KpT w w := fun _ _ _ h _ _ => h
theorem KpA.refl (w : World) : KpA w w := fun _ _ _ h _ _ _ _ => h
theorem KpT.trans {a b c : World} (h : KpT a b) (k : KpT b c) : KpT a c := fun g cs T h1 h2 h3 => k g cs T (h g cs T h1 h2 h3) h2 h3
theorem KpA.trans {a b c : World} (h : KpA a b) (k : KpA b c) : KpA a c := fun g cs T h1 h2 h3 h4 h5 => k g cs T (h g cs T h1 h2 h3 h4 h5) h2 h3 h4 h5
theorem KpT.a {w w' : World} (h : KpT w w') : KpA w w' := fun g cs T h1 h2 h3 _ _ => h g cs T h1 h2 h3
theorem KpT.below {w w' : World} (h : Below w.heap.size w w') : KpT w w' := fun g _ _ h1 _ _ => (h.block g (Array.getElem?_eq_some_iff.1 h1).1).trans h1
theorem KpA.below {w w' : World} (h : Below w.heap.size w w') : KpA w w' := (KpT.below h).a
theorem KpT.cells {w w' : World} {g : Nat} (h : w.grownBy w' (some g)) {T : TypeId} {cs : Array Value} (hg : w.heap[g]? = some (.cells cs T (0, 0))) (hT : T = 91 ∨ T = 79) : KpT w w' := fun k cs' T' h1 h2 h3 => by
  refine (h.block k (Array.getElem?_eq_some_iff.1 h1).1 (fun e => ?_)).trans h1
  injection e with e
  subst e
  rw [hg] at h1; injection h1 with h1; injection h1 with _ h1
  rcases hT with q | q
  · exact h2 (h1.symm.trans q)
  · exact h3 (h1.symm.trans q)
theorem KpA.cells {w w' : World} {g : Nat} (h : w.grownBy w' (some g)) {T : TypeId} {cs : Array Value} (hg : w.heap[g]? = some (.cells cs T (0, 0))) (hT : T = 91 ∨ T = 79 ∨ T = 9 ∨ T = 51) : KpA w w' := fun k cs' T' h1 h2 h3 h4 h5 => by
  refine (h.block k (Array.getElem?_eq_some_iff.1 h1).1 (fun e => ?_)).trans h1
  injection e with e
  subst e
  rw [hg] at h1; injection h1 with h1; injection h1 with _ h1
  rcases hT with q | q | q | q
  · exact h2 (h1.symm.trans q)
  · exact h3 (h1.symm.trans q)
  · exact h4 (h1.symm.trans q)
  · exact h5 (h1.symm.trans q)
theorem KpT.own {w w' : World} {base size n : Nat} {v : Value} {xs : List Value} (ho : w.ownsRow base 79 size v n xs) (h : w.grownBy w' v.ownBlock) : KpT w w' := by
  rcases hv : v.ownBlock with _ | k
  · rw [hv] at h; exact fun g _ _ h1 _ _ => (h.block g (Array.getElem?_eq_some_iff.1 h1).1 (by simp)).trans h1
  · rw [hv] at h
    obtain ⟨_, cur, hc⟩ := own_holds ho hv
    exact KpT.cells h hc (.inr rfl)
theorem KpA.own {w w' : World} {base size n : Nat} {v : Value} {xs : List Value} {e : TypeId} (ho : w.ownsRow base e size v n xs) (h : w.grownBy w' v.ownBlock) (he : e = 79 ∨ e = 9 ∨ e = 51) : KpA w w' := by
  rcases hv : v.ownBlock with _ | k
  · rw [hv] at h; exact fun g _ _ h1 _ _ _ _ => (h.block g (Array.getElem?_eq_some_iff.1 h1).1 (by simp)).trans h1
  · rw [hv] at h
    obtain ⟨_, cur, hc⟩ := own_holds ho hv
    exact KpA.cells h hc (.inr he)
theorem KpT.set {w : World} {B N R : Nat} {cs : Array Value} {vT vN vR : Value} {ts : List Gm.Tm} {ns : List (List Int)} {rs : List Gm.Rl} (h : WRaw w B N R cs vT vN vR ts ns rs) (j : Nat) (u : Value) : KpT w (w.setCell ⟨R, j, none⟩ u) := KpT.cells (only_set (World.grownBy.refl w (some R)) j u) h.b (.inl rfl)
def Wk (w : World) (B N R : Nat) (ts : List Gm.Tm) (ns : List (List Int)) (rs : List Gm.Rl) (lv : Int) : Prop := ∃ vT vN vR, WRaw w B N R (wC vT vN vR lv) vT vN vR ts ns rs
theorem Wk.below {w w' : World} {B N R : Nat} {ts : List Gm.Tm} {ns : List (List Int)} {rs : List Gm.Rl} {lv : Int} (h : Wk w B N R ts ns rs lv) (hb : Below w.heap.size w w') : Wk w' B N R ts ns rs lv := by
  obtain ⟨vT, vN, vR, h⟩ := h; exact ⟨vT, vN, vR, h.below hb⟩
theorem Wk.alloc {w : World} {B N R : Nat} {ts : List Gm.Tm} {ns : List (List Int)} {rs : List Gm.Rl} {lv : Int} (h : Wk w B N R ts ns rs lv) (o : Obj) : Wk (w.alloc o) B N R ts ns rs lv := by
  obtain ⟨vT, vN, vR, h⟩ := h; exact ⟨vT, vN, vR, h.alloc o⟩
theorem Wk.more {w : World} {B N N' R : Nat} {ts : List Gm.Tm} {ns : List (List Int)} {rs : List Gm.Rl} {lv : Int} (h : Wk w B N R ts ns rs lv) (hN : N ≤ N') : Wk w B N' R ts ns rs lv := by
  obtain ⟨vT, vN, vR, h⟩ := h; exact ⟨vT, vN, vR, h.more hN⟩
theorem Wk.lt {w : World} {B N R : Nat} {ts : List Gm.Tm} {ns : List (List Int)} {rs : List Gm.Rl} {lv : Int} (h : Wk w B N R ts ns rs lv) : R < w.heap.size ∧ B ≤ R := by
  obtain ⟨vT, vN, vR, h⟩ := h; exact ⟨h.lt, h.hR⟩
end Go.Proofs.YtajcegofflmoeaaGreatDoor

namespace Go.Proofs.YtajcegofflmoeaaGreatDoor
set_option maxRecDepth 100000
open Go.RowKit

theorem build_tm9 (s : ByteArray) (w : World) : (Instr.build 79 #[(0, .string s)]).run Tryz.prog w = .ok (.agg #[.string s, .int .i64 0, .int .i64 0]) w := run_build w 79 _ _ (by kernel_rfl)
theorem apTm_wp {w : World} {o : Oper} {a : Act} {KK : Act → World → Prop} {Q : Exit → Act → World → Prop}
    (s x : Operand) (t : TypeId) (ho : o.op = .call { callee := .builtin .append, args := #[s, x], argTypes := #[t, t] }) (ht : Tryz.prog.underlying t = some (.slice 79))
    (base : Nat) (v : Value) (ts : List Gm.Tm) (hs : a.eval s = v) (hown : OwnTm w base v ts) (g c : Nat) (y : Gm.Tm) (hx : a.eval x = .slice (some ⟨g, 0, none⟩) 1 c) (hz : ∀ j, w.cell? ⟨g, j, none⟩ = (tmC y)[j]?)
    (hlen : ts.length ≤ 1000000) (hbase : base ≤ w.heap.size)
    (hK : ∀ v' w', OwnTm w' base v' (ts ++ [y]) → w.grownBy w' v.ownBlock → KK (a.put o.dst v') w') :
    o.wp Tryz.prog a w KK Q := by
  obtain ⟨i, hi, hz0, hz1, hz2⟩ := info_parts infoTm
  refine wp_append_own w s x t ho base 79 i _ 3 32 ht hi hz0 hz1 hz2 rfl (by decide) v ts.length (tmsC ts) hs hown ⟨g, 0, none⟩ 1 c (tmC y) hx rfl ?_ ?_ (by unfold maxLen; omega) (by omega) hbase fun v' w' h1 h2 _ => hK v' w' ?_ h2
  · intro j u hj
    rw [addZ, Nat.zero_add]
    exact (hz j).trans hj
  · intro u hu; simp [tmC] at hu; rcases hu with rfl | rfl | rfl <;> rfl
  · unfold OwnTm tmsC
    rw [List.length_append, List.flatMap_append, List.flatMap_singleton]; exact h1

set_option maxHeartbeats 8000000 in
theorem terminal9 (L : List Int) (B N R : Nat) (ts ts' : List Gm.Tm) (ns : List (List Int)) (rs : List Gm.Rl) (lv n : Int) (x : Tok) (w : World) (hw : Wk w B N R ts ns rs lv) (hf : Gm.Fit ⟨ts, ns, rs, 0⟩) (hx : K.Tx x.t) (hN : N ≤ w.heap.size) (hB : B ≤ w.heap.size) (hp : Gm.put ts x = .ok (ts', n)) (h24 : ts.length ≤ 24) :
    Calls Tryz.prog 122 #[.pointer (some ⟨R, 0, none⟩), refV L x] w fun e w' => e = .returned (.int .i64 n) ∧ Wk w' B N R ts' ns rs lv ∧ Below B w w' ∧ KpT w w' := by
  have HW := hide hw
  obtain ⟨vT, vN, vR, h⟩ := hw
  have HH := hide h
  obtain ⟨AT, cT, rfl, hc1, _⟩ := own_form h.t
  obtain ⟨AN, cN, rfl, _, _⟩ := own_form h.n
  have hr3 : ∃ AR cR, vR = .slice AR rs.length cR := by obtain ⟨qs, _, h2, _⟩ := id h.r; obtain ⟨A, c, e, _⟩ := own_form h2; exact ⟨A, c, e⟩
  obtain ⟨AR, cR, rfl⟩ := hr3
  obtain ⟨k0, hf0, hRs⟩ := h.at 0
  have k1 := (h.at 1).1
  have k2 := (h.at 2).1
  have k3 := (h.at 3).1
  simp only [wC, List.getElem?_toArray, List.getElem?_cons_zero, List.getElem?_cons_succ] at k0 k1 k2 k3
  have HX := hide (Below.refl w.heap.size w)
  unfold refV
  obtain ⟨w1, hw1⟩ : ∃ y, y = w.alloc (.cells #[.string (K.str x.t), .complex .f64 (Fl.fl (Pl.pos (L.take x.o)).1) (Fl.fl (Pl.pos (L.take x.o)).2)] 89) := ⟨_, rfl⟩
  have HB1 : Hid (Below w.heap.size w w1) := hide (by rw [hw1]; exact (Below.refl _ _).alloc (Nat.le_refl _) _)
  have HR1 : Hid (w1.heap[w.heap.size]? = some (.cells #[.string (K.str x.t), .complex .f64 (Fl.fl (Pl.pos (L.take x.o)).1) (Fl.fl (Pl.pos (L.take x.o)).2)] 89 (0, 0))) := hide (by rw [hw1]; exact heap_alloc_new w _)
  have HT := hide (fun (y : World) (hb : Below w1.heap.size w1 y) => term_any (.agg #[.slice AT ts.length cT, .slice AN ns.length cN, .slice AR rs.length cR, .int .i64 0]) ⟨ts, ns, rs, 0⟩ x.t w.heap.size y ((h.rd hN 0).below (HB1.out.trans (hb.mono HB1.out.size)) (Nat.le_refl _)) hf hx (Nat.le_trans HB1.out.size hb.size))
  unfold Gm.term at HT
  unfold Gm.put at hp
  have HP := hide hp
  have HF := hide hf
  clear hp h hf
  go_enter Tryz.func122, Tryz.ntmps122
  go_wp2_with fail
  rw [← hw1]
  clear hw1
  have hk := HB1.out
  have p0 := (hk.cell (p := ⟨R, 0, none⟩) hRs).trans k0
  have p1 := (hk.cell (p := ⟨R, 1, none⟩) hRs).trans k1
  have p2 := (hk.cell (p := ⟨R, 2, none⟩) hRs).trans k2
  have p3 := (hk.cell (p := ⟨R, 3, none⟩) hRs).trans k3
  have hR1 : R < w1.heap.size := Nat.lt_of_lt_of_le hRs hk.size
  have hb1 : w.heap.size < w1.heap.size := (Array.getElem?_eq_some_iff.1 HR1.out).1
  have t0 : w1.cell? ⟨w.heap.size, 0, none⟩ = some (.string (K.str x.t)) := by rw [cell_of_row w1 _ 0 _ _ _ HR1.out]; rfl
  have Q0 := fun y : Calm.On w1.heap.size w1 => (y.2.cell (p := ⟨R, 0, none⟩) hR1).trans p0
  have Q1 := fun y : Calm.On w1.heap.size w1 => (y.2.cell (p := ⟨R, 1, none⟩) hR1).trans p1
  have Q2 := fun y : Calm.On w1.heap.size w1 => (y.2.cell (p := ⟨R, 2, none⟩) hR1).trans p2
  have Q3 := fun y : Calm.On w1.heap.size w1 => (y.2.cell (p := ⟨R, 3, none⟩) hR1).trans p3
  have Q4 := fun y : Calm.On w1.heap.size w1 => (y.2.cell (p := ⟨w.heap.size, 0, none⟩) hb1).trans t0
  clear hk
  refine CalmN.region_tree (fun x => ∃ y : Calm.On w1.heap.size w1, x = y.1) (.one [0, 1, 2, 3, 4, 5] 6 (.fin [7])) (by kernel_rfl) (by kernel_rfl) (fun _ _ d _ _ h => by cases d <;> exact h) ⟨⟨w1.drew, below_drewN (Below.refl _ _) 1⟩, rfl⟩ ?_
  simp only [CalmN.wpT, CalmN.wpSt, CalmN.pickOps, List.getElem?_toArray, List.getElem?_cons_zero, List.getElem?_cons_succ]
  repeat (go_big_quiet_step (fail))
  refine wpQuiet_nil ?_
  clear Q0 Q1 Q2 Q3 Q4 p0 p1 p2 p3 t0 k0 k1 k2 k3
  intro KK hKK
  rw [if_pos (by rfl)]
  go_wp2_with fail
  refine (HT.out w1.drew (below_drewN (Below.refl _ _) 1)).mono ?_; rintro _ w2 ⟨rfl, hb2⟩
  have hb12 : Below w1.heap.size w1 w2 := (below_drewN (Below.refl w1.heap.size w1) 1).trans hb2
  have HB12 := hide hb12
  clear hb2
  go_wp2_with fail
  refine hKK _ _ ⟨⟨w2, hb12⟩, rfl⟩ (fun x => ∃ y : Calm.On w1.heap.size w1, x = y.1) (fun _ h => h) ⟨⟨w2, hb12⟩, rfl⟩ ?_
  repeat (go_big_quiet_step (fail))
  refine wpQuiet_nil ?_
  have HB2 := hide (HB1.out.trans (hb12.mono HB1.out.size))
  have HW2 := hide (HH.out.below HB2.out)
  have HR2 := hide ((hb12.block w.heap.size hb1).trans HR1.out)
  clear hb12 hKK
  by_cases h0 : 0 ≤ Gm.find (Gm.names ts) x.t
  · have HE : Hid (ts = ts' ∧ Gm.find (Gm.names ts) x.t = n) := hide (by have h := HP.out; rw [if_pos h0] at h; injection h with h; exact ⟨congrArg Prod.fst h, congrArg Prod.snd h⟩)
    rw [HE.out.2] at h0 ⊢
    go_wp2
    go_ret
    exact ⟨rfl, ⟨_, _, _, by rw [← HE.out.1]; exact HW2.out⟩, HB2.out.mono hB, KpT.below HB2.out⟩
  · have HE : Hid (ts ++ [⟨x.t, 0, 0⟩] = ts' ∧ (ts.length : Int) = n ∧ ts.length ≠ 24) := hide (by
      have h := HP.out
      rw [if_neg h0] at h
      by_cases h24 : ts.length = 24
      · rw [if_pos h24] at h; cases h
      · rw [if_neg h24] at h; injection h with h; exact ⟨congrArg Prod.fst h, congrArg Prod.snd h, h24⟩)
    have hl24 : ((ts.length : Int) == 24) = false := beq_eq_false_iff_ne.2 (by have := HE.out.2.2; omega)
    obtain ⟨k0, hf0, hR2⟩ := HW2.out.at 0
    simp only [wC, List.getElem?_toArray, List.getElem?_cons_zero] at k0
    generalize Gm.find (Gm.names ts) x.t = z at *
    go_wp2_with fail
    have HR2r := HR2
    have HB26 := hide (HB2.out.mono hB)
    have HO6 := hide ((HW2.out.alloc (.cells (tmC ⟨x.t, 0, 0⟩).toArray 79)).t)
    have HB6 : Hid (B ≤ (w2.alloc (.cells (tmC ⟨x.t, 0, 0⟩).toArray 79)).drew.heap.size) := hide (by have := HB2.out.size; simp; omega)
    have HCE := hide (new_cells w2 (tmC ⟨x.t, 0, 0⟩) 79)
    have HT6 : Hid ((w2.alloc (.cells (tmC ⟨x.t, 0, 0⟩).toArray 79)).heap[w.heap.size]? = w2.heap[w.heap.size]?) := hide (((Below.refl _ w2).alloc (Nat.le_refl _) _).block _ (Array.getElem?_eq_some_iff.1 HR2.out).1)
    have RB := fun w => build_tm9 (K.str x.t) w
    have D8 := fun y : Calm.OnB w.heap.size w2 => (show y.1.cell? ⟨w.heap.size, 0, none⟩ = some (.string (K.str x.t)) by rw [cell_of_row y.1 _ 0 _ _ _ (y.2.trans HR2.out)]; rfl)
    refine CalmN.region_tree (fun y => ∃ z : Calm.OnB w.heap.size w2, y = z.1) (.two [0, 1, 2, 3, 4, 6, 7, 8] 5 (.one [] 9 (.one [] 10 (.one [11, 12, 13] 14 (.fin [])))) 9 (.one [] 5 (.one [] 10 (.one [11, 12, 13] 14 (.fin []))))) (by kernel_rfl) (by kernel_rfl) (fun _ _ d _ _ h => by cases d <;> exact h) ⟨⟨w2.drew, rfl⟩, rfl⟩ ?_
    simp only [CalmN.wpT, CalmN.wpSt, CalmN.pickOps, List.getElem?_toArray, List.getElem?_cons_zero, List.getElem?_cons_succ]
    repeat (go_big_quiet_step (fail))
    refine wpQuiet_nil ?_
    clear D8
    refine ⟨?_, ?_⟩
    · intro KK hKK
      rw [if_pos (by rfl)]
      go_wp2_with fail
      refine hKK _ _ ⟨⟨w2.drew, rfl⟩, rfl⟩ (fun y => ∃ z : Calm.OnB w.heap.size w2, y = z.1) (fun _ h => h) ⟨⟨w2.drew, rfl⟩, rfl⟩ ?_
      refine wpQuiet_nil ?_
      intro KK hKK
      try rw [if_pos (by rfl)]
      go_wp2_with fail
      refine hKK _ _ ⟨⟨(w2.alloc (.cells (tmC ⟨x.t, 0, 0⟩).toArray 79)).drew, HT6.out⟩, rfl⟩ (fun y => ∃ z : Calm.OnB w.heap.size w2, y = z.1) (fun _ h => h) ⟨⟨(w2.alloc (.cells (tmC ⟨x.t, 0, 0⟩).toArray 79)).drew, HT6.out⟩, rfl⟩ ?_
      refine wpQuiet_nil ?_
      intro KK hKK
      try rw [if_pos (by rfl)]
      refine apTm_wp (w := (w2.alloc (.cells (tmC ⟨x.t, 0, 0⟩).toArray 79)).drew) (.tmp 31) (.tmp 35) _ rfl Tryz.underlying22 B (.slice AT ts.length cT) ts rfl HO6.out _ 1 ⟨x.t, 0, 0⟩ rfl HCE.out (by omega) HB6.out ?_
      intro v7 w7 ho7 hg7'
      have hg7 := (drew_grown (w2.alloc (.cells (tmC ⟨x.t, 0, 0⟩).toArray 79)) _).trans hg7'
      obtain ⟨A7, c7, hv7, _, _⟩ := own_form ho7
      rw [show (ts ++ [(⟨x.t, 0, 0⟩ : Gm.Tm)]).length = ts.length + 1 by simp] at hv7
      subst hv7
      have hW7 := (HW2.out.alloc (.cells (tmC ⟨x.t, 0, 0⟩).toArray 79)).tm_put ho7 hg7
      have HW7 := hide hW7
      obtain ⟨k7, hf7, hR7⟩ := hW7.at 0
      simp only [wC, List.getElem?_toArray, List.getElem?_cons_zero] at k7
      have hK7 := (KpT.below ((Below.refl _ w2).alloc (Nat.le_refl _) (.cells (tmC ⟨x.t, 0, 0⟩).toArray 79))).trans (KpT.own (HW2.out.alloc (.cells (tmC ⟨x.t, 0, 0⟩).toArray 79)).t hg7)
      have HK7 := hide hK7
      have HT7 : Hid (w7.heap[w.heap.size]? = w2.heap[w.heap.size]?) := hide ((hK7 _ _ _ HR2r.out (by decide) (by decide)).trans HR2r.out.symm)
      have HB7 := hide ((HB26.out.alloc (Nat.le_trans hB HB2.out.size) (.cells (tmC ⟨x.t, 0, 0⟩).toArray 79)).grown hg7 (by have := HB2.out.size; simp; omega) (fun k e => (own_holds HW2.out.t e).1))
      clear ho7 hg7 hg7' hW7 hK7
      go_wp2_with fail
      refine hKK _ _ ⟨⟨w7, HT7.out⟩, rfl⟩ (fun y => ∃ z : Calm.OnB w.heap.size w2, y = z.1) (fun _ h => h) ⟨⟨w7, HT7.out⟩, rfl⟩ ?_
      repeat (go_big_quiet_step (fail))
      refine wpQuiet_nil ?_
      intro KK hKK
      try rw [if_pos (by rfl)]
      go_wp2_with fail
      have HW8 := hide (HW7.out.set 0 (.slice A7 (ts.length + 1) c7))
      have HK8 := hide (HK7.out.trans (KpT.set HW7.out 0 (.slice A7 (ts.length + 1) c7)))
      have HB8 := hide (HB7.out.setCell (p := ⟨R, 0, none⟩) HW7.out.hR (.slice A7 (ts.length + 1) c7))
      have HT8 : Hid ((w7.setCell ⟨R, 0, none⟩ (.slice A7 (ts.length + 1) c7)).heap[w.heap.size]? = w2.heap[w.heap.size]?) := hide ((HK8.out _ _ _ HR2r.out (by decide) (by decide)).trans HR2r.out.symm)
      refine hKK _ _ ⟨⟨_, HT8.out⟩, rfl⟩ (fun y => ∃ z : Calm.OnB w.heap.size w2, y = z.1) (fun _ h => h) ⟨⟨_, HT8.out⟩, rfl⟩ ?_
      refine wpQuiet_nil ?_
      obtain ⟨k8, _, hR8⟩ := HW8.out.at 0
      simp only [wC, List.setIfInBounds_toArray, List.set_cons_zero, List.getElem?_toArray, List.getElem?_cons_zero] at k8
      clear k7 hf7
      go_wp2
      go_ret
      refine ⟨by simp; exact HE.out.2.1, ⟨_, _, _, by rw [← HE.out.1]; exact HW8.out⟩, HB8.out, (KpT.below HB2.out).trans HK8.out⟩
    · intro KK hKK
      rw [if_pos (by rfl)]
      go_wp2_with fail
      refine hKK _ _ ⟨⟨(w2.alloc (.cells (tmC ⟨x.t, 0, 0⟩).toArray 79)).drew, HT6.out⟩, rfl⟩ (fun y => ∃ z : Calm.OnB w.heap.size w2, y = z.1) (fun _ h => h) ⟨⟨(w2.alloc (.cells (tmC ⟨x.t, 0, 0⟩).toArray 79)).drew, HT6.out⟩, rfl⟩ ?_
      refine wpQuiet_nil ?_
      intro KK hKK
      try rw [if_pos (by rfl)]
      go_wp2_with fail
      refine hKK _ _ ⟨⟨(w2.alloc (.cells (tmC ⟨x.t, 0, 0⟩).toArray 79)).drew, HT6.out⟩, rfl⟩ (fun y => ∃ z : Calm.OnB w.heap.size w2, y = z.1) (fun _ h => h) ⟨⟨(w2.alloc (.cells (tmC ⟨x.t, 0, 0⟩).toArray 79)).drew, HT6.out⟩, rfl⟩ ?_
      refine wpQuiet_nil ?_
      intro KK hKK
      try rw [if_pos (by rfl)]
      refine apTm_wp (w := (w2.alloc (.cells (tmC ⟨x.t, 0, 0⟩).toArray 79)).drew) (.tmp 31) (.tmp 35) _ rfl Tryz.underlying22 B (.slice AT ts.length cT) ts rfl HO6.out _ 1 ⟨x.t, 0, 0⟩ rfl HCE.out (by omega) HB6.out ?_
      intro v7 w7 ho7 hg7'
      have hg7 := (drew_grown (w2.alloc (.cells (tmC ⟨x.t, 0, 0⟩).toArray 79)) _).trans hg7'
      obtain ⟨A7, c7, hv7, _, _⟩ := own_form ho7
      rw [show (ts ++ [(⟨x.t, 0, 0⟩ : Gm.Tm)]).length = ts.length + 1 by simp] at hv7
      subst hv7
      have hW7 := (HW2.out.alloc (.cells (tmC ⟨x.t, 0, 0⟩).toArray 79)).tm_put ho7 hg7
      have HW7 := hide hW7
      obtain ⟨k7, hf7, hR7⟩ := hW7.at 0
      simp only [wC, List.getElem?_toArray, List.getElem?_cons_zero] at k7
      have hK7 := (KpT.below ((Below.refl _ w2).alloc (Nat.le_refl _) (.cells (tmC ⟨x.t, 0, 0⟩).toArray 79))).trans (KpT.own (HW2.out.alloc (.cells (tmC ⟨x.t, 0, 0⟩).toArray 79)).t hg7)
      have HK7 := hide hK7
      have HT7 : Hid (w7.heap[w.heap.size]? = w2.heap[w.heap.size]?) := hide ((hK7 _ _ _ HR2r.out (by decide) (by decide)).trans HR2r.out.symm)
      have HB7 := hide ((HB26.out.alloc (Nat.le_trans hB HB2.out.size) (.cells (tmC ⟨x.t, 0, 0⟩).toArray 79)).grown hg7 (by have := HB2.out.size; simp; omega) (fun k e => (own_holds HW2.out.t e).1))
      clear ho7 hg7 hg7' hW7 hK7
      go_wp2_with fail
      refine hKK _ _ ⟨⟨w7, HT7.out⟩, rfl⟩ (fun y => ∃ z : Calm.OnB w.heap.size w2, y = z.1) (fun _ h => h) ⟨⟨w7, HT7.out⟩, rfl⟩ ?_
      repeat (go_big_quiet_step (fail))
      refine wpQuiet_nil ?_
      intro KK hKK
      try rw [if_pos (by rfl)]
      go_wp2_with fail
      have HW8 := hide (HW7.out.set 0 (.slice A7 (ts.length + 1) c7))
      have HK8 := hide (HK7.out.trans (KpT.set HW7.out 0 (.slice A7 (ts.length + 1) c7)))
      have HB8 := hide (HB7.out.setCell (p := ⟨R, 0, none⟩) HW7.out.hR (.slice A7 (ts.length + 1) c7))
      have HT8 : Hid ((w7.setCell ⟨R, 0, none⟩ (.slice A7 (ts.length + 1) c7)).heap[w.heap.size]? = w2.heap[w.heap.size]?) := hide ((HK8.out _ _ _ HR2r.out (by decide) (by decide)).trans HR2r.out.symm)
      refine hKK _ _ ⟨⟨_, HT8.out⟩, rfl⟩ (fun y => ∃ z : Calm.OnB w.heap.size w2, y = z.1) (fun _ h => h) ⟨⟨_, HT8.out⟩, rfl⟩ ?_
      refine wpQuiet_nil ?_
      obtain ⟨k8, _, hR8⟩ := HW8.out.at 0
      simp only [wC, List.setIfInBounds_toArray, List.set_cons_zero, List.getElem?_toArray, List.getElem?_cons_zero] at k8
      clear k7 hf7
      go_wp2
      go_ret
      refine ⟨by simp; exact HE.out.2.1, ⟨_, _, _, by rw [← HE.out.1]; exact HW8.out⟩, HB8.out, (KpT.below HB2.out).trans HK8.out⟩
end Go.Proofs.YtajcegofflmoeaaGreatDoor

namespace Go.Proofs.YtajcegofflmoeaaGreatDoor
set_option maxRecDepth 100000

namespace Sh
theorem getD_at {α : Type} (l : List α) (j : Nat) (d : α) (h : j < l.length) : l.getD j d = l[j] := by
  rw [List.getD_eq_getElem?_getD, List.getElem?_eq_getElem h]; rfl
end Sh
end Go.Proofs.YtajcegofflmoeaaGreatDoor
