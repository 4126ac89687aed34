/- The contract of the document's own token at a place, over this program. -/
import Derived.Test.YtgmcpkecppfkgaaRef7S
import Derived.Test.YtgmcpkecppfkgaaCalmT
import Derived.Deep.DeepCutAuto
namespace Go.Proofs.Ytgmcpkecppfkgaa
set_option maxRecDepth 100000
open Go.RowKit

theorem rmark_any (z : Int) (w : World) : Calls Try.prog 39 #[.int .u8 z] w fun e w' => e = .returned (.int .i64 (if z = 58 then 10 else if z = 124 then 11 else if z = 59 then 12 else 0)) ∧ w = w' := by
  by_cases h1 : z = 58
  · subst h1
    go_enter Try.func39, Try.ntmps39
    go_wp2
    go_ret
    exact ⟨rfl, rfl⟩
  · by_cases h2 : z = 124
    · subst h2
      go_enter Try.func39, Try.ntmps39
      go_wp2
      go_ret
      exact ⟨rfl, rfl⟩
    · by_cases h3 : z = 59
      · subst h3
        go_enter Try.func39, Try.ntmps39
        go_wp2
        go_ret
        exact ⟨rfl, rfl⟩
      · rw [if_neg h1, if_neg h2, if_neg h3]
        have q1 : (z == 58) = false := by simpa using h1
        have q2 : (z == 124) = false := by simpa using h2
        have q3 : (z == 59) = false := by simpa using h3
        clear h1 h2 h3
        go_enter Try.func39, Try.ntmps39
        go_wp2
        go_ret
        exact ⟨rfl, rfl⟩

/-- One comparison of a text with a constant. -/
theorem str_b (l m : List Int) (hl : K.Bytes l) (hm : K.Bytes m) : ((K.str l).toList == (K.str m).toList) = decide (l = m) := by
  rw [T.str_list, T.str_list, Bool.eq_iff_iff, beq_iff_eq, decide_eq_true_iff]
  exact ⟨fun h => K.bytes_inj hl hm h, fun h => by rw [h]⟩
theorem rpercent_any (l : List Int) (hl : K.Bytes l) (w : World) : Calls Try.prog 38 #[.string (K.str l)] w fun e w' => e = .returned (.int .i64 (T.wkind l)) ∧ w = w' := by
  have b1 := str_b l [116, 111, 107, 101, 110] hl (by intro x hx; simp at hx; omega)
  have b2 := str_b l [108, 101, 102, 116] hl (by intro x hx; simp at hx; omega)
  have b3 := str_b l [114, 105, 103, 104, 116] hl (by intro x hx; simp at hx; omega)
  have b4 := str_b l [110, 111, 110, 97, 115, 115, 111, 99] hl (by intro x hx; simp at hx; omega)
  have b5 := str_b l [115, 116, 97, 114, 116] hl (by intro x hx; simp at hx; omega)
  have b6 := str_b l [112, 114, 101, 99] hl (by intro x hx; simp at hx; omega)
  rw [show (K.str [116, 111, 107, 101, 110]).toList = [116, 111, 107, 101, 110] by rw [ByteArray.toList_eq]; rfl] at b1
  rw [show (K.str [108, 101, 102, 116]).toList = [108, 101, 102, 116] by rw [ByteArray.toList_eq]; rfl] at b2
  rw [show (K.str [114, 105, 103, 104, 116]).toList = [114, 105, 103, 104, 116] by rw [ByteArray.toList_eq]; rfl] at b3
  rw [show (K.str [110, 111, 110, 97, 115, 115, 111, 99]).toList = [110, 111, 110, 97, 115, 115, 111, 99] by rw [ByteArray.toList_eq]; rfl] at b4
  rw [show (K.str [115, 116, 97, 114, 116]).toList = [115, 116, 97, 114, 116] by rw [ByteArray.toList_eq]; rfl] at b5
  rw [show (K.str [112, 114, 101, 99]).toList = [112, 114, 101, 99] by rw [ByteArray.toList_eq]; rfl] at b6
  unfold T.wkind
  clear hl
  generalize hs : K.str l = st at *
  clear hs
  go_enter Try.func38, Try.ntmps38
  go_wp2
  all_goals go_ret
  all_goals exact ⟨rfl, rfl⟩

namespace T
theorem skip_kind (l : List Int) (f : Nat) (s : List Int) : (skip l f s).1 = 0 := by unfold skip; split <;> rfl
theorem head_z {z : Int} (h : head z = true) : (97 ≤ z ∧ z ≤ 122) ∨ (65 ≤ z ∧ z ≤ 90) ∨ z = 95 := by
  unfold head small at h
  simp only [Bool.or_eq_true, Bool.and_eq_true, decide_eq_true_eq, beq_iff_eq] at h
  omega
theorem piece_name (l : List Int) (h : head (l.getD 0 0) = true) : piece l = name l := by
  have hz := head_z h
  unfold piece
  simp only
  rw [if_neg (by omega), if_neg (by omega), if_neg (by omega), if_neg (by omega), if_neg (by omega), if_neg (by omega), if_neg (by omega), if_neg (by omega), if_neg (by omega)]
theorem piece_39 (l : List Int) (h : l.getD 0 0 = 39) : piece l = literal l := by
  unfold piece
  simp only [h]
  rfl
/-- Any other piece that is a token is a sign. -/
theorem piece_sign (l : List Int) (h1 : head (l.getD 0 0) = false) (h2 : ¬ l.getD 0 0 = 39) (h3 : ¬ l.getD 0 0 = 37) (he : (piece l).2.2 = 0) (hk : (piece l).1 ≠ 0) : piece l = ((if l.getD 0 0 = 58 then 10 else if l.getD 0 0 = 124 then 11 else if l.getD 0 0 = 59 then 12 else 0), 1, 0) ∧ (if l.getD 0 0 = 58 then (10 : Int) else if l.getD 0 0 = 124 then 11 else if l.getD 0 0 = 59 then 12 else 0) ≠ 0 := by
  have hns : nsize l = 0 := by
    cases l with
    | nil => rfl
    | cons z r => rw [nsize_cons, if_neg]; simpa using h1
  revert he hk
  unfold piece
  simp only
  split
  · intro _ h; exact absurd rfl h
  split
  · intro _ h
    unfold comment at h
    split at h
    · exact absurd (skip_kind _ _ _) h
    split at h <;> exact absurd rfl h
  split
  · intro _ h; exact absurd (skip_kind _ _ _) h
  split
  · intro _ h
    unfold action at h
    split at h <;> exact absurd rfl h
  split
  · exact fun _ _ => ⟨rfl, by decide⟩
  split
  · exact fun _ _ => ⟨rfl, by decide⟩
  split
  · exact fun _ _ => ⟨rfl, by decide⟩
  · intro h
    unfold name at h
    rw [if_pos hns] at h
    simp at h
end T

/-- What one answers. -/
def oneV (L : List Int) (k : Nat) (x : T.P3) : Value := .tuple #[.agg #[.int .i64 x.1, .string (K.str (ttext x.1 ((L.drop k).take x.2.1))), .complex .f64 (Fl.fl (Pl.pos (L.take k)).1) (Fl.fl (Pl.pos (L.take k)).2)], .int .i64 ((k + x.2.1 : Nat) : Int), .int .i64 0]

set_option maxHeartbeats 4000000 in
theorem one_sign (A : Option Addr) (c : Nat) (L : List Int) (k : Nat) (w : World) (hr : RdB w w.heap.size A L) (hl : K.Bytes L) (hc : L.length ≤ c) (hn : L.length ≤ 2000) (hk : k < L.length) (he : (T.piece (L.drop k)).2.2 = 0) (hx : (T.piece (L.drop k)).1 ≠ 0)
    (h1 : T.head (L.getD k 0) = false) (h2 : ¬ L.getD k 0 = 39) (h3 : ¬ L.getD k 0 = 37) :
    Calls Try.prog 14 #[.slice A L.length c, .int .i64 k] w fun e w' => e = .returned (oneV L k (T.piece (L.drop k))) ∧ Below w.heap.size w w' := by
  have hz : (L.drop k).getD 0 0 = L.getD k 0 := by rw [Go.Proofs.Ytgmcpkecppfkgaa.L.cons_drop L k hk]; rfl
  obtain ⟨g, o, rfl, hgl, hcl⟩ := hr (by omega)
  have hcell := hcl k hk
  have hps := T.piece_sign (L.drop k) (by rw [hz]; exact h1) (by rw [hz]; exact h2) (by rw [hz]; exact h3) he hx
  rw [hz] at hps
  obtain ⟨hpc, hkn⟩ := hps
  have hp37 : T.pre (L.drop k) [37, 37] = false := by
    rcases hh : T.pre (L.drop k) [37, 37] with _ | _
    · rfl
    · exact absurd ((T.pre_two _ _ _ (hl.drop k) (by intro x hx; simp at hx; omega) hh).1) (by rw [hz]; exact h3)
  have HAT := hide (fun (w1 : World) (h : Below w.heap.size w w1) => rat_in (some ⟨g, o, none⟩) c w.heap.size L k w1 (hr.below h (Nat.le_refl _)) hn (by omega))
  have H1 := hide (fun (w1 : World) (h : Below w.heap.size w w1) => rhas_any (some ⟨g, o, none⟩) c w.heap.size L [37, 37] k w1 (hr.below h (Nat.le_refl _)) hl hc (by omega) (by omega) (by decide))
  rw [hp37, show K.str [37, 37] = ⟨#[37, 37]⟩ from rfl] at H1
  have HF := hide (first_any (L.getD k 0))
  rw [h1] at HF
  have HM := hide (rmark_any (L.getD k 0))
  have HB0 := hide (fun o => ((Below.refl w.heap.size w).alloc (Nat.le_refl _) o))
  have SC := fun a w m X Y => show (store a (.complex .f64 X Y) m).run Try.prog w = stored Try.prog w a (.complex .f64 X Y) m from run_store _ w a _ m rfl
  have q39 : (L.getD k 0 == 39) = false := by simpa using h2
  have q37 : (L.getD k 0 == 37) = false := by simpa using h3
  rw [hpc]
  unfold oneV
  have ht : ttext (if L.getD k 0 = 58 then 10 else if L.getD k 0 = 124 then 11 else if L.getD k 0 = 59 then 12 else 0) ((L.drop k).take 1) = [] := by
    unfold ttext
    rw [if_neg]
    split
    · omega
    split
    · omega
    split <;> omega
  simp only
  rw [ht, show K.str [] = ⟨#[]⟩ from rfl]
  have qk : ((if L.getD k 0 = 58 then (10 : Int) else if L.getD k 0 = 124 then 11 else if L.getD k 0 = 59 then 12 else 0) == 0) = false := by simpa using hkn
  clear ht hpc hkn hp37 hcl hr hz h1 h2 h3 he hx
  generalize (if L.getD k 0 = 58 then (10 : Int) else if L.getD k 0 = 124 then 11 else if L.getD k 0 = 59 then 12 else 0) = xk at *
  generalize L.getD k 0 = z at *
  generalize Fl.fl (Pl.pos (L.take k)).1 = X at *
  generalize Fl.fl (Pl.pos (L.take k)).2 = Y at *
  go_enter Try.func14, Try.ntmps14
  go_wp2_with fail
  refine (HAT.out _ (HB0.out _)).mono ?_; rintro _ w' ⟨rfl, rfl⟩
  go_wp2_with fail
  refine (HF.out _).mono ?_; rintro _ w' ⟨rfl, rfl⟩
  go_wp2_with fail
  refine (H1.out _ ((HB0.out _).alloc (by simp) _)).mono ?_; rintro _ w' ⟨rfl, rfl⟩
  go_wp2_with fail
  refine (HM.out _).mono ?_; rintro _ w' ⟨rfl, rfl⟩
  go_wp2
  refine bodyPost_ret (v := .tuple #[.agg #[.int .i64 xk, .string ⟨#[]⟩, .complex .f64 X Y], .int .i64 ((k : Int) + 1), .int .i64 0]) (by simp [results, Try.results14, go_sem]) rfl ⟨by rw [Int.natCast_add]; rfl, ?_⟩
  exact (HB0.out _).alloc (by simp) _

set_option maxHeartbeats 4000000 in
theorem one_mark (A : Option Addr) (c : Nat) (L : List Int) (k : Nat) (w : World) (hr : RdB w w.heap.size A L) (hl : K.Bytes L) (hc : L.length ≤ c) (hn : L.length ≤ 2000) (hk : k < L.length) (hp : T.pre (L.drop k) [37, 37] = true) :
    Calls Try.prog 14 #[.slice A L.length c, .int .i64 k] w fun e w' => e = .returned (oneV L k (T.piece (L.drop k))) ∧ Below w.heap.size w w' := by
  have hz : (L.drop k).getD 0 0 = L.getD k 0 := by rw [Go.Proofs.Ytgmcpkecppfkgaa.L.cons_drop L k hk]; rfl
  have h37 := (T.pre_two _ _ _ (hl.drop k) (by intro x hx; simp at hx; omega) hp).1
  have hpc : T.piece (L.drop k) = (9, 2, 0) := by rw [T.piece_37 _ h37]; unfold T.percent; rw [if_pos hp]
  rw [hz] at h37
  obtain ⟨g, o, rfl, hgl, hcl⟩ := hr (by omega)
  have hcell := hcl k hk
  rw [h37] at hcell
  have HAT := hide (fun (w1 : World) (h : Below w.heap.size w w1) => rat_in (some ⟨g, o, none⟩) c w.heap.size L k w1 (hr.below h (Nat.le_refl _)) hn (by omega))
  have H1 := hide (fun (w1 : World) (h : Below w.heap.size w w1) => rhas_any (some ⟨g, o, none⟩) c w.heap.size L [37, 37] k w1 (hr.below h (Nat.le_refl _)) hl hc (by omega) (by omega) (by decide))
  rw [hp, show K.str [37, 37] = ⟨#[37, 37]⟩ from rfl] at H1
  have HF := hide (first_any 37)
  rw [show T.head 37 = false from rfl] at HF
  have HB0 := hide (fun o => ((Below.refl w.heap.size w).alloc (Nat.le_refl _) o))
  have SC := fun a w m X Y => show (store a (.complex .f64 X Y) m).run Try.prog w = stored Try.prog w a (.complex .f64 X Y) m from run_store _ w a _ m rfl
  rw [hpc]
  unfold oneV
  simp only
  rw [show ttext 9 ((L.drop k).take 2) = [] from rfl, show K.str [] = ⟨#[]⟩ from rfl]
  clear hpc hp hcl hr hz h37
  generalize Fl.fl (Pl.pos (L.take k)).1 = X at *
  generalize Fl.fl (Pl.pos (L.take k)).2 = Y at *
  go_enter Try.func14, Try.ntmps14
  go_wp2_with fail
  refine (HAT.out _ (HB0.out _)).mono ?_; rintro _ w' ⟨rfl, rfl⟩
  go_wp2_with fail
  refine (HF.out _).mono ?_; rintro _ w' ⟨rfl, rfl⟩
  go_wp2_with fail
  refine (H1.out _ ((HB0.out _).alloc (by simp) _)).mono ?_; rintro _ w' ⟨rfl, rfl⟩
  go_wp2
  refine bodyPost_ret (v := .tuple #[.agg #[.int .i64 9, .string ⟨#[]⟩, .complex .f64 X Y], .int .i64 ((k : Int) + 2), .int .i64 0]) (by simp [results, Try.results14, go_sem]) rfl ⟨by rw [Int.natCast_add]; rfl, ?_⟩
  exact (HB0.out _).alloc (by simp) _

set_option maxHeartbeats 4000000 in
theorem one_word (A : Option Addr) (c : Nat) (L : List Int) (k : Nat) (w : World) (hr : RdB w w.heap.size A L) (hl : K.Bytes L) (hc : L.length ≤ c) (hn : L.length ≤ 2000) (hk : k < L.length) (he : (T.piece (L.drop k)).2.2 = 0) (hx : (T.piece (L.drop k)).1 ≠ 0) (h37 : L.getD k 0 = 37) (hp : T.pre (L.drop k) [37, 37] = false) :
    Calls Try.prog 14 #[.slice A L.length c, .int .i64 k] w fun e w' => e = .returned (oneV L k (T.piece (L.drop k))) ∧ Below w.heap.size w w' := by
  have hz : (L.drop k).getD 0 0 = L.getD k 0 := by rw [Go.Proofs.Ytgmcpkecppfkgaa.L.cons_drop L k hk]; rfl
  have hps : T.psize (L.drop k) = 1 + T.run T.small (L.drop (k + 1)) := by unfold T.psize; rw [List.drop_drop]
  have hword : ((L.drop k).take (T.psize (L.drop k))).drop 1 = (L.drop (k + 1)).take (T.run T.small (L.drop (k + 1))) := by
    rw [hps, List.drop_take, List.drop_drop]
    congr 1
    omega
  have hpc : T.piece (L.drop k) = (T.wkind ((L.drop (k + 1)).take (T.run T.small (L.drop (k + 1)))), 1 + T.run T.small (L.drop (k + 1)), 0) ∧ T.wkind ((L.drop (k + 1)).take (T.run T.small (L.drop (k + 1)))) ≠ 0 := by
    rw [T.piece_37 _ (hz.trans h37)] at he hx ⊢
    unfold T.percent at he hx ⊢
    rw [if_neg (by rw [hp]; simp)] at he hx ⊢
    by_cases h3 : T.pre (L.drop k) [37, 123] = true
    · rw [if_pos h3] at hx; exact absurd (T.skip_kind _ _ _) hx
    · rw [if_neg h3] at he hx ⊢
      rw [hword, hps] at he ⊢
      by_cases h4 : T.wkind ((L.drop (k + 1)).take (T.run T.small (L.drop (k + 1)))) = 0
      · exfalso; simp [h4] at he
      · exact ⟨by simp [h4], h4⟩
  obtain ⟨hpc, hkn⟩ := hpc
  obtain ⟨g, o, rfl, hgl, hcl⟩ := hr (by omega)
  have hcell := hcl k hk
  rw [h37] at hcell
  have HC := hide hcl
  have hrl := T.run_le T.small (L.drop (k + 1))
  rw [List.length_drop] at hrl
  have HAT := hide (fun (w1 : World) (h : Below w.heap.size w w1) => rat_in (some ⟨g, o, none⟩) c w.heap.size L k w1 (hr.below h (Nat.le_refl _)) hn (by omega))
  have H1 := hide (fun (w1 : World) (h : Below w.heap.size w w1) => rhas_any (some ⟨g, o, none⟩) c w.heap.size L [37, 37] k w1 (hr.below h (Nat.le_refl _)) hl hc (by omega) (by omega) (by decide))
  rw [hp, show K.str [37, 37] = ⟨#[37, 37]⟩ from rfl] at H1
  have HF := hide (first_any 37)
  rw [show T.head 37 = false from rfl] at HF
  have HCV := hide (fun (o1 o2 : Obj) => str_conv ((((hr.alloc (Nat.le_refl _) o1).alloc (by simp) o2).dropA hc (k + 1)).take (T.run T.small (L.drop (k + 1)))) ((hl.drop (k + 1)).take _) (c - (k + 1)))
  have HK := hide (fun w => rpercent_any ((L.drop (k + 1)).take (T.run T.small (L.drop (k + 1)))) ((hl.drop _).take _) w)
  have HS := hide (fun w => slice_mid8 w (some ⟨g, o, none⟩) c L.length (k + 1) (k + 1 + T.run T.small (L.drop (k + 1))) (by omega) (by omega))
  rw [show k + 1 + T.run T.small (L.drop (k + 1)) - (k + 1) = T.run T.small (L.drop (k + 1)) by omega] at HS
  have hlt2 : ((L.drop (k + 1)).take (T.run T.small (L.drop (k + 1)))).length = T.run T.small (L.drop (k + 1)) := by rw [List.length_take, List.length_drop]; omega
  rw [hlt2] at HCV
  have HB0 := hide (fun o => ((Below.refl w.heap.size w).alloc (Nat.le_refl _) o))
  have SC := fun a w m X Y => show (store a (.complex .f64 X Y) m).run Try.prog w = stored Try.prog w a (.complex .f64 X Y) m from run_store _ w a _ m rfl
  rw [hpc]
  unfold oneV
  have hwb := T.wkind_bd ((L.drop (k + 1)).take (T.run T.small (L.drop (k + 1))))
  have ht : ttext (T.wkind ((L.drop (k + 1)).take (T.run T.small (L.drop (k + 1))))) ((L.drop k).take (1 + T.run T.small (L.drop (k + 1)))) = [] := by
    have := hwb.2.2 hkn
    unfold ttext; rw [if_neg (by omega)]
  simp only
  rw [ht, show K.str [] = ⟨#[]⟩ from rfl]
  have qk : (T.wkind ((L.drop (k + 1)).take (T.run T.small (L.drop (k + 1)))) == 0) = false := by simpa using hkn
  have HRN := hide (T.run_next T.small L)
  have HRE := hide (T.run_end T.small L)
  clear hpc hp hcl hr hz h37 ht hkn hwb hword hps hlt2 he hx hl
  generalize T.wkind ((L.drop (k + 1)).take (T.run T.small (L.drop (k + 1)))) = xk at *
  generalize K.str ((L.drop (k + 1)).take (T.run T.small (L.drop (k + 1)))) = st at *
  generalize hrun : T.run T.small (L.drop (k + 1)) = rn at *
  have HRUN := hide hrun
  clear hrun
  generalize Fl.fl (Pl.pos (L.take k)).1 = X at *
  generalize Fl.fl (Pl.pos (L.take k)).2 = Y at *
  go_enter Try.func14, Try.ntmps14
  go_wp2_with fail
  refine (HAT.out _ (HB0.out _)).mono ?_; rintro _ w' ⟨rfl, rfl⟩
  go_wp2_with fail
  refine (HF.out _).mono ?_; rintro _ w' ⟨rfl, rfl⟩
  go_wp2_with fail
  refine (H1.out _ ((HB0.out _).alloc (by simp) _)).mono ?_; rintro _ w' ⟨rfl, rfl⟩
  go_wp2_with fail
  go_loop [9] (fun vi => ∃ (j : Nat), j ≤ L.length ∧ k + 1 ≤ j ∧ vi = .int .i64 j ∧ j + T.run T.small (L.drop j) = k + 1 + rn) (fun vi => L.length - (intOf vi).toNat)
  case atStart => exact ⟨k + 1, by omega, by omega, by go_num, by rw [HRUN.out]⟩
  case round =>
    obtain ⟨j, hj, hkj, rfl, hrel⟩ := hrel
    have HV := hide hrel
    clear hrel
    by_cases hlt : j < L.length
    · have hcj := HC.out j hlt
      have hrn := HRN.out j hlt
      by_cases hs : 97 ≤ L.getD j 0 ∧ L.getD j 0 ≤ 122
      · have hsm : T.small (L.getD j 0) = true := by unfold T.small; simp; exact hs
        rw [hsm, if_pos rfl] at hrn
        have HN := hide hrn
        obtain ⟨hs1, hs2⟩ := hs
        clear hsm hrn hcell
        generalize L.getD j 0 = z at *
        go_wp2
        go_round
        case rel => exact ⟨j + 1, by omega, by omega, by go_num, by have := HV.out; have := HN.out; omega⟩
        case measure => simp [intOf]; omega
      · have hsm : T.small (L.getD j 0) = false := by
          rcases hq : T.small (L.getD j 0) with _ | _
          · rfl
          · exfalso; apply hs; unfold T.small at hq; simp at hq; exact hq
        rw [hsm] at hrn
        have hje : k + 1 + rn = j := by have := HV.out; rw [hrn] at this; simp at this; omega
        have S1 : ∀ w, (Instr.sliceAt 22 (.slice (some ⟨g, o, none⟩) L.length c) (some (.int .i64 ((k : Int) + 1))) (some (.int .i64 j)) none).run Try.prog w = .ok (.slice (dropA (some ⟨g, o, none⟩) c (k + 1)) rn (c - (k + 1))) w := fun w => by
          have h := HS.out w
          rw [hje, show ((k + 1 : Nat) : Int) = (k : Int) + 1 by omega] at h
          exact h
        have C1 := HCV.out tok0 (.cells #[.int .i64 0, .string ⟨#[]⟩, .complex .f64 X Y] 38)
        unfold tok0 at C1
        have HJ := hide hje
        clear hsm hrn hje hcell HS HCV
        generalize dropA (some ⟨g, o, none⟩) c (k + 1) = D at *
        generalize c - (k + 1) = c2 at *
        generalize L.getD j 0 = z at *
        by_cases h97 : 97 ≤ z
        · have h122 : ¬ z ≤ 122 := fun h => hs ⟨h97, h⟩
          clear hs
          go_wp2_with fail
          refine (HK.out _).mono ?_; rintro _ w' ⟨rfl, rfl⟩
          go_wp2
          refine bodyPost_ret (v := .tuple #[.agg #[.int .i64 xk, .string ⟨#[]⟩, .complex .f64 X Y], .int .i64 j, .int .i64 0]) (by simp [results, Try.results14, go_sem]) rfl ⟨by rw [← HJ.out, show k + (1 + rn) = k + 1 + rn by omega], ?_⟩
          exact (HB0.out _).alloc (by simp) _
        · clear hs
          go_wp2_with fail
          refine (HK.out _).mono ?_; rintro _ w' ⟨rfl, rfl⟩
          go_wp2
          refine bodyPost_ret (v := .tuple #[.agg #[.int .i64 xk, .string ⟨#[]⟩, .complex .f64 X Y], .int .i64 j, .int .i64 0]) (by simp [results, Try.results14, go_sem]) rfl ⟨by rw [← HJ.out, show k + (1 + rn) = k + 1 + rn by omega], ?_⟩
          exact (HB0.out _).alloc (by simp) _
    · have hre := HRE.out j (by omega)
      have hje : k + 1 + rn = j := by have := HV.out; rw [hre] at this; omega
      have S1 : ∀ w, (Instr.sliceAt 22 (.slice (some ⟨g, o, none⟩) L.length c) (some (.int .i64 ((k : Int) + 1))) (some (.int .i64 j)) none).run Try.prog w = .ok (.slice (dropA (some ⟨g, o, none⟩) c (k + 1)) rn (c - (k + 1))) w := fun w => by
        have h := HS.out w
        rw [hje, show ((k + 1 : Nat) : Int) = (k : Int) + 1 by omega] at h
        exact h
      have C1 := HCV.out tok0 (.cells #[.int .i64 0, .string ⟨#[]⟩, .complex .f64 X Y] 38)
      unfold tok0 at C1
      have HJ := hide hje
      clear hre hje hcell HS HCV
      generalize dropA (some ⟨g, o, none⟩) c (k + 1) = D at *
      generalize c - (k + 1) = c2 at *
      go_wp2_with fail
      refine (HK.out _).mono ?_; rintro _ w' ⟨rfl, rfl⟩
      go_wp2
      refine bodyPost_ret (v := .tuple #[.agg #[.int .i64 xk, .string ⟨#[]⟩, .complex .f64 X Y], .int .i64 j, .int .i64 0]) (by simp [results, Try.results14, go_sem]) rfl ⟨by rw [← HJ.out, show k + (1 + rn) = k + 1 + rn by omega], ?_⟩
      exact (HB0.out _).alloc (by simp) _

set_option maxHeartbeats 4000000 in
theorem one_name (A : Option Addr) (c : Nat) (L : List Int) (k : Nat) (w : World) (hr : RdB w w.heap.size A L) (hl : K.Bytes L) (hc : L.length ≤ c) (hn : L.length ≤ 2000) (hk : k < L.length) (he : (T.piece (L.drop k)).2.2 = 0) (hh : T.head (L.getD k 0) = true) :
    Calls Try.prog 14 #[.slice A L.length c, .int .i64 k] w fun e w' => e = .returned (oneV L k (T.piece (L.drop k))) ∧ Below w.heap.size w w' := by
  have hz : (L.drop k).getD 0 0 = L.getD k 0 := by rw [Go.Proofs.Ytgmcpkecppfkgaa.L.cons_drop L k hk]; rfl
  have hns : T.nsize (L.drop k) = 1 + T.run T.inName (L.drop (k + 1)) := by
    rw [Go.Proofs.Ytgmcpkecppfkgaa.L.cons_drop L k hk, T.nsize_cons, if_pos hh]; omega
  have hpc : T.piece (L.drop k) = (1, 1 + T.run T.inName (L.drop (k + 1)), 0) ∧ 1 + T.run T.inName (L.drop (k + 1)) ≤ 20 := by
    rw [T.piece_name _ (by rw [hz]; exact hh)] at he ⊢
    unfold T.name at he ⊢
    rw [hns] at he ⊢
    rw [if_neg (by omega)] at he ⊢
    by_cases h4 : 20 < 1 + T.run T.inName (L.drop (k + 1))
    · exfalso; simp [h4] at he
    · exact ⟨by simp [h4], by omega⟩
  obtain ⟨hpc, h20⟩ := hpc
  obtain ⟨g, o, rfl, hgl, hcl⟩ := hr (by omega)
  have hcell := hcl k hk
  have HC := hide hcl
  have hrl := T.run_le T.inName (L.drop (k + 1))
  rw [List.length_drop] at hrl
  have HAT := hide (fun (w1 : World) (h : Below w.heap.size w w1) => rat_in (some ⟨g, o, none⟩) c w.heap.size L k w1 (hr.below h (Nat.le_refl _)) hn (by omega))
  have HF := hide (first_any (L.getD k 0))
  rw [hh] at HF
  have HLT := hide (fun j => later_any (L.getD j 0))
  have HCV := hide (fun (w1 : World) (h : Below w.heap.size w w1) => str_conv (((hr.below h (Nat.le_refl _)).dropA hc k).take (1 + T.run T.inName (L.drop (k + 1)))) ((hl.drop k).take _) (c - k))
  have HS := hide (fun w => slice_mid8 w (some ⟨g, o, none⟩) c L.length k (k + (1 + T.run T.inName (L.drop (k + 1)))) (by omega) (by omega))
  rw [show k + (1 + T.run T.inName (L.drop (k + 1))) - k = 1 + T.run T.inName (L.drop (k + 1)) by omega] at HS
  have hlt2 : ((L.drop k).take (1 + T.run T.inName (L.drop (k + 1)))).length = 1 + T.run T.inName (L.drop (k + 1)) := by rw [List.length_take, List.length_drop]; omega
  rw [hlt2] at HCV
  have HB0 := hide (fun o => ((Below.refl w.heap.size w).alloc (Nat.le_refl _) o))
  have SC := fun a w m X Y => show (store a (.complex .f64 X Y) m).run Try.prog w = stored Try.prog w a (.complex .f64 X Y) m from run_store _ w a _ m rfl
  rw [hpc]
  unfold oneV
  have ht : ttext 1 ((L.drop k).take (1 + T.run T.inName (L.drop (k + 1)))) = (L.drop k).take (1 + T.run T.inName (L.drop (k + 1))) := by unfold ttext; rw [if_pos (.inl rfl)]
  simp only
  rw [ht]
  have HRN := hide (T.run_next T.inName L)
  have HRE := hide (T.run_end T.inName L)
  clear hpc hcl hr hz ht hns hlt2 he hl hh
  generalize K.str ((L.drop k).take (1 + T.run T.inName (L.drop (k + 1)))) = st at *
  generalize hrun : T.run T.inName (L.drop (k + 1)) = rn at *
  have HRUN := hide hrun
  clear hrun
  generalize Fl.fl (Pl.pos (L.take k)).1 = X at *
  generalize Fl.fl (Pl.pos (L.take k)).2 = Y at *
  generalize hzz : L.getD k 0 = z at *
  clear hzz
  go_enter Try.func14, Try.ntmps14
  go_wp2_with fail
  refine (HAT.out _ (HB0.out _)).mono ?_; rintro _ w' ⟨rfl, rfl⟩
  go_wp2_with fail
  refine (HF.out _).mono ?_; rintro _ w' ⟨rfl, rfl⟩
  go_wp2_with fail
  go_loop [9] (fun vi => ∃ (j : Nat), j ≤ L.length ∧ k + 1 ≤ j ∧ vi = .int .i64 j ∧ j + T.run T.inName (L.drop j) = k + 1 + rn) (fun vi => L.length - (intOf vi).toNat)
  case atStart => exact ⟨k + 1, by omega, by omega, by go_num, by rw [HRUN.out]⟩
  case round =>
    obtain ⟨j, hj, hkj, rfl, hrel⟩ := hrel
    have HV := hide hrel
    clear hrel hcell
    by_cases hlt : j < L.length
    · have hcj := HC.out j hlt
      have hrn := HRN.out j hlt
      have HLj := hide (HLT.out j)
      rcases hsm : T.inName (L.getD j 0) with _ | _
      · rw [hsm] at hrn HLj
        have hje : k + (1 + rn) = j := by have := HV.out; rw [hrn] at this; simp at this; omega
        have HJ := hide hje
        clear hsm hrn
        generalize L.getD j 0 = z2 at *
        go_wp2_with fail
        refine (HLj.out _).mono ?_; rintro _ w' ⟨rfl, rfl⟩
        have hgt : ¬ (j : Int) - (k : Int) > 20 := by have := HJ.out; omega
        go_upto_region 10 with fail
        have hb5 : Below w.heap.size w ((((w.alloc tok0).alloc (.cells #[.int .i64 0, .string ⟨#[]⟩, .complex .f64 X Y] 38))).drew) := below_drewN ((HB0.out tok0).alloc (by simp) _) 1
        unfold tok0 at hb5
        have S1 : ∀ w, (Instr.sliceAt 22 (.slice (some ⟨g, o, none⟩) L.length c) (some (.int .i64 k)) (some (.int .i64 j)) none).run Try.prog w = .ok (.slice (dropA (some ⟨g, o, none⟩) c k) (1 + rn) (c - k)) w := fun w => by
          have h := HS.out w
          rw [HJ.out] at h
          exact h
        have CC := fun y : Calm.On w.heap.size w => HCV.out y.1 y.2
        refine Calm.region_tree (fun x => ∃ y : Calm.On w.heap.size w, x = y.1) (.one [0, 1, 2, 3, 4, 5] 6 (.one [7] 8 (.fin []))) (by kernel_rfl) (by kernel_rfl) (fun _ _ d _ _ h => by cases d <;> exact h) ⟨⟨_, hb5⟩, rfl⟩ ?_
        simp only [Calm.wpT, Calm.wpSt, Calm.pickOps, List.getElem?_toArray, List.getElem?_cons_zero, List.getElem?_cons_succ]
        repeat (go_big_quiet_step (fail))
        refine wpQuiet_nil ?_
        clear CC HCV HS S1 hb5
        have HBE := hide (fun o1 o2 => below_drewN ((HB0.out o1).alloc (by simp) o2) 1)
        intro KK hKK
        try rw [if_pos (by rfl)]
        go_wp2_with fail
        refine hKK _ _ ⟨⟨_, HBE.out _ _⟩, rfl⟩ (fun x => ∃ y : Calm.On w.heap.size w, x = y.1) (fun _ h => h) ⟨⟨_, HBE.out _ _⟩, rfl⟩ ?_
        repeat (go_big_quiet_step (fail))
        refine wpQuiet_nil ?_
        intro KK hKK
        try rw [if_pos (by rfl)]
        go_wp2_with fail
        refine hKK _ _ ⟨⟨_, HBE.out _ _⟩, rfl⟩ (fun x => ∃ y : Calm.On w.heap.size w, x = y.1) (fun _ h => h) ⟨⟨_, HBE.out _ _⟩, rfl⟩ ?_
        refine wpQuiet_nil ?_
        go_wp2
        exact bodyPost_ret (v := .tuple #[.agg #[.int .i64 1, .string st, .complex .f64 X Y], .int .i64 j, .int .i64 0]) (by simp [results, Try.results14, go_sem]) rfl ⟨by rw [HJ.out], HBE.out _ _⟩
      · rw [hsm, if_pos rfl] at hrn
        rw [hsm] at HLj
        have HN := hide hrn
        clear hsm hrn
        generalize L.getD j 0 = z2 at *
        go_wp2_with fail
        refine (HLj.out _).mono ?_; rintro _ w' ⟨rfl, rfl⟩
        go_wp2
        go_round
        case rel => exact ⟨j + 1, by omega, by omega, by go_num, by have := HV.out; have := HN.out; omega⟩
        case measure => simp [intOf]; omega
    · have hre := HRE.out j (by omega)
      have hje : k + (1 + rn) = j := by have := HV.out; rw [hre] at this; omega
      have HJ := hide hje
      have hgt : ¬ (j : Int) - (k : Int) > 20 := by omega
      clear hre hje
      go_upto_region 10 with fail
      have hb5 : Below w.heap.size w ((((w.alloc tok0).alloc (.cells #[.int .i64 0, .string ⟨#[]⟩, .complex .f64 X Y] 38))).drew) := below_drewN ((HB0.out tok0).alloc (by simp) _) 1
      unfold tok0 at hb5
      have S1 : ∀ w, (Instr.sliceAt 22 (.slice (some ⟨g, o, none⟩) L.length c) (some (.int .i64 k)) (some (.int .i64 j)) none).run Try.prog w = .ok (.slice (dropA (some ⟨g, o, none⟩) c k) (1 + rn) (c - k)) w := fun w => by
        have h := HS.out w
        rw [HJ.out] at h
        exact h
      have CC := fun y : Calm.On w.heap.size w => HCV.out y.1 y.2
      refine Calm.region_tree (fun x => ∃ y : Calm.On w.heap.size w, x = y.1) (.one [0, 1, 2, 3, 4, 5] 6 (.one [7] 8 (.fin []))) (by kernel_rfl) (by kernel_rfl) (fun _ _ d _ _ h => by cases d <;> exact h) ⟨⟨_, hb5⟩, rfl⟩ ?_
      simp only [Calm.wpT, Calm.wpSt, Calm.pickOps, List.getElem?_toArray, List.getElem?_cons_zero, List.getElem?_cons_succ]
      repeat (go_big_quiet_step (fail))
      refine wpQuiet_nil ?_
      clear CC HCV HS S1 hb5
      have HBE := hide (fun o1 o2 => below_drewN ((HB0.out o1).alloc (by simp) o2) 1)
      intro KK hKK
      try rw [if_pos (by rfl)]
      go_wp2_with fail
      refine hKK _ _ ⟨⟨_, HBE.out _ _⟩, rfl⟩ (fun x => ∃ y : Calm.On w.heap.size w, x = y.1) (fun _ h => h) ⟨⟨_, HBE.out _ _⟩, rfl⟩ ?_
      repeat (go_big_quiet_step (fail))
      refine wpQuiet_nil ?_
      intro KK hKK
      try rw [if_pos (by rfl)]
      go_wp2_with fail
      refine hKK _ _ ⟨⟨_, HBE.out _ _⟩, rfl⟩ (fun x => ∃ y : Calm.On w.heap.size w, x = y.1) (fun _ h => h) ⟨⟨_, HBE.out _ _⟩, rfl⟩ ?_
      refine wpQuiet_nil ?_
      go_wp2
      exact bodyPost_ret (v := .tuple #[.agg #[.int .i64 1, .string st, .complex .f64 X Y], .int .i64 j, .int .i64 0]) (by simp [results, Try.results14, go_sem]) rfl ⟨by rw [HJ.out], HBE.out _ _⟩

set_option maxHeartbeats 4000000 in
theorem one_lit (A : Option Addr) (c : Nat) (L : List Int) (k : Nat) (w : World) (hr : RdB w w.heap.size A L) (hl : K.Bytes L) (hc : L.length ≤ c) (hn : L.length ≤ 2000) (hk : k < L.length) (he : (T.piece (L.drop k)).2.2 = 0) (h39 : L.getD k 0 = 39) :
    Calls Try.prog 14 #[.slice A L.length c, .int .i64 k] w fun e w' => e = .returned (oneV L k (T.piece (L.drop k))) ∧ Below w.heap.size w w' := by
  have hz : (L.drop k).getD 0 0 = L.getD k 0 := by rw [Go.Proofs.Ytgmcpkecppfkgaa.L.cons_drop L k hk]; rfl
  have hpc : (T.isLit ((L.drop k).take 3) = true ∧ T.piece (L.drop k) = (2, 3, 0)) ∨ (T.isLit ((L.drop k).take 3) = false ∧ T.isLit ((L.drop k).take 4) = true ∧ T.piece (L.drop k) = (2, 4, 0)) := by
    rw [T.piece_39 _ (hz.trans h39)] at he ⊢
    unfold T.literal at he ⊢
    rcases h3 : T.isLit ((L.drop k).take 3) with _ | _
    · rcases h4 : T.isLit ((L.drop k).take 4) with _ | _
      · exfalso
        rw [h3, h4] at he
        simp only [Bool.false_eq_true, if_false] at he
        split at he <;> simp at he
      · right; refine ⟨rfl, rfl, ?_⟩; simp
    · left; refine ⟨rfl, ?_⟩; simp
  obtain ⟨g, o, rfl, hgl, hcl⟩ := hr (by omega)
  have hcell := hcl k hk
  rw [h39] at hcell
  have HAT := hide (fun (w1 : World) (h : Below w.heap.size w w1) => rat_in (some ⟨g, o, none⟩) c w.heap.size L k w1 (hr.below h (Nat.le_refl _)) hn (by omega))
  have HF := hide (first_any 39)
  rw [show T.head 39 = false from rfl] at HF
  have HLT := hide (fun n => rlit_any ((L.drop k).take n) ((hl.drop k).take n))
  have HCV := hide (fun (n : Nat) (hkn : k + n ≤ L.length) (w1 : World) (h : Below w.heap.size w w1) => (by
    have h1 := str_conv (((hr.below h (Nat.le_refl _)).dropA hc k).take n) ((hl.drop k).take _) (c - k)
    rw [show ((L.drop k).take n).length = n by rw [List.length_take, List.length_drop]; omega] at h1
    exact h1 : (convert 22 9 (.slice (dropA (some ⟨g, o, none⟩) c k) n (c - k))).run Try.prog w1 = .ok (.string (K.str ((L.drop k).take n))) w1))
  have HS := hide (fun (n : Nat) (hkn : k + n ≤ L.length) (w1 : World) => (by
    have h1 := slice_mid8 w1 (some ⟨g, o, none⟩) c L.length k (k + n) (by omega) (by omega)
    rw [show k + n - k = n by omega, Int.natCast_add] at h1
    exact h1 : (Instr.sliceAt 22 (.slice (some ⟨g, o, none⟩) L.length c) (some (.int .i64 k)) (some (.int .i64 ((k : Int) + (n : Int)))) none).run Try.prog w1 = .ok (.slice (dropA (some ⟨g, o, none⟩) c k) n (c - k)) w1))
  have HB0 := hide (fun o => ((Below.refl w.heap.size w).alloc (Nat.le_refl _) o))
  have SC := fun a w m X Y => show (store a (.complex .f64 X Y) m).run Try.prog w = stored Try.prog w a (.complex .f64 X Y) m from run_store _ w a _ m rfl
  have hov : ∀ n, oneV L k (2, n, 0) = .tuple #[.agg #[.int .i64 2, .string (K.str ((L.drop k).take n)), .complex .f64 (Fl.fl (Pl.pos (L.take k)).1) (Fl.fl (Pl.pos (L.take k)).2)], .int .i64 ((k : Int) + n), .int .i64 0] := fun n => by
    unfold oneV ttext
    simp
  have HPV : Hid ((T.isLit ((L.drop k).take 3) = true → oneV L k (T.piece (L.drop k)) = .tuple #[.agg #[.int .i64 2, .string (K.str ((L.drop k).take 3)), .complex .f64 (Fl.fl (Pl.pos (L.take k)).1) (Fl.fl (Pl.pos (L.take k)).2)], .int .i64 ((k : Int) + 3), .int .i64 0]) ∧ (T.isLit ((L.drop k).take 3) = false → T.isLit ((L.drop k).take 4) = true → oneV L k (T.piece (L.drop k)) = .tuple #[.agg #[.int .i64 2, .string (K.str ((L.drop k).take 4)), .complex .f64 (Fl.fl (Pl.pos (L.take k)).1) (Fl.fl (Pl.pos (L.take k)).2)], .int .i64 ((k : Int) + 4), .int .i64 0])) := hide (by
    refine ⟨fun h => ?_, fun h h' => ?_⟩
    · rcases hpc with ⟨_, e⟩ | ⟨e1, _, _⟩
      · rw [e]; exact hov 3
      · rw [h] at e1; cases e1
    · rcases hpc with ⟨e1, _⟩ | ⟨_, _, e⟩
      · rw [h] at e1; cases e1
      · rw [e]; exact hov 4)
  have HB4 : Hid (T.isLit ((L.drop k).take 3) = false → T.isLit ((L.drop k).take 4) = true) := hide (fun h => by
    rcases hpc with ⟨e1, _⟩ | ⟨_, e, _⟩
    · rw [h] at e1; cases e1
    · exact e)
  clear hpc hcl hr hz he hl h39 hov
  generalize oneV L k (T.piece (L.drop k)) = V at *
  generalize Fl.fl (Pl.pos (L.take k)).1 = X at *
  generalize Fl.fl (Pl.pos (L.take k)).2 = Y at *
  go_enter Try.func14, Try.ntmps14
  go_wp2_with fail
  refine (HAT.out _ (HB0.out _)).mono ?_; rintro _ w' ⟨rfl, rfl⟩
  go_wp2_with fail
  refine (HF.out _).mono ?_; rintro _ w' ⟨rfl, rfl⟩
  go_wp2_with fail
  go_loop [10] (fun vi => ∃ (n : Nat), (n = 3 ∨ (n = 4 ∧ T.isLit ((L.drop k).take 3) = false)) ∧ vi = .int .i64 n) (fun vi => 5 - (intOf vi).toNat)
  case atStart => exact ⟨3, .inl rfl, rfl⟩
  case round =>
    clear hcell
    obtain ⟨n, hnn, rfl⟩ := hrel
    rcases hnn with rfl | ⟨rfl, h3⟩
    · rcases h3 : T.isLit ((L.drop k).take 3) with _ | _
      · clear HPV
        have hlen4 : k + 3 ≤ L.length := by
          have h1 := T.isLit_len (HB4.out h3)
          rw [List.length_take, List.length_drop] at h1
          omega
        have C1 := HCV.out 3 hlen4 (((w.alloc tok0).alloc (.cells #[.int .i64 0, .string ⟨#[]⟩, .complex .f64 X Y] 38))) ((HB0.out tok0).alloc (by simp) _)
        unfold tok0 at C1
        have S1 : ∀ w, (Instr.sliceAt 22 (.slice (some ⟨g, o, none⟩) L.length c) (some (.int .i64 k)) (some (.int .i64 ((k : Int) + 3))) none).run Try.prog w = .ok (.slice (dropA (some ⟨g, o, none⟩) c k) 3 (c - k)) w := HS.out 3 hlen4
        have HLj := hide (HLT.out 3)
        rw [h3] at HLj
        have H3 := hide h3
        have hl3 : ¬ (k : Int) + 3 > (L.length : Int) := by omega
        clear h3
        generalize hst : K.str ((L.drop k).take 3) = st at *
        clear hst
        go_wp2_with fail
        refine (HLj.out _).mono ?_; rintro _ w' ⟨rfl, rfl⟩
        go_wp2
        go_round
        case rel => exact ⟨4, by simp, by go_num⟩
        case measure => simp [intOf]
      · have hA := h3
        clear h3 HB4
        have hlen : k + 3 ≤ L.length := by
          have h1 := T.isLit_len hA
          rw [List.length_take, List.length_drop] at h1
          omega
        have hV := HPV.out.1 hA
        have C1 := HCV.out 3 hlen (((w.alloc tok0).alloc (.cells #[.int .i64 0, .string ⟨#[]⟩, .complex .f64 X Y] 38))) ((HB0.out tok0).alloc (by simp) _)
        unfold tok0 at C1
        have S1 : ∀ w, (Instr.sliceAt 22 (.slice (some ⟨g, o, none⟩) L.length c) (some (.int .i64 k)) (some (.int .i64 ((k : Int) + 3))) none).run Try.prog w = .ok (.slice (dropA (some ⟨g, o, none⟩) c k) 3 (c - k)) w := HS.out 3 hlen
        have HLj := hide (HLT.out 3)
        rw [hA] at HLj
        have HV := hide hV
        have hl3 : ¬ (k : Int) + 3 > (L.length : Int) := by omega
        clear hA hV
        go_wp2_with fail
        refine (HLj.out _).mono ?_; rintro _ w' ⟨rfl, rfl⟩
        go_upto_region 17 with fail
        have hb5 : Below w.heap.size w ((((w.alloc tok0).alloc (.cells #[.int .i64 0, .string ⟨#[]⟩, .complex .f64 X Y] 38))).drew) := below_drewN ((HB0.out tok0).alloc (by simp) _) 1
        unfold tok0 at hb5
        have CC := fun y : Calm.On w.heap.size w => HCV.out 3 hlen y.1 y.2
        refine Calm.region_tree (fun x => ∃ y : Calm.On w.heap.size w, x = y.1) (.one [0, 1, 2, 3, 4, 5, 6, 7] 8 (.one [9] 10 (.fin []))) (by kernel_rfl) (by kernel_rfl) (fun _ _ d _ _ h => by cases d <;> exact h) ⟨⟨_, hb5⟩, rfl⟩ ?_
        simp only [Calm.wpT, Calm.wpSt, Calm.pickOps, List.getElem?_toArray, List.getElem?_cons_zero, List.getElem?_cons_succ]
        repeat (go_big_quiet_step (fail))
        refine wpQuiet_nil ?_
        clear CC HCV HS S1 hb5 C1
        have HBE := hide (fun o1 o2 => below_drewN ((HB0.out o1).alloc (by simp) o2) 1)
        intro KK hKK
        try rw [if_pos (by rfl)]
        go_wp2_with fail
        refine hKK _ _ ⟨⟨_, HBE.out _ _⟩, rfl⟩ (fun x => ∃ y : Calm.On w.heap.size w, x = y.1) (fun _ h => h) ⟨⟨_, HBE.out _ _⟩, rfl⟩ ?_
        repeat (go_big_quiet_step (fail))
        refine wpQuiet_nil ?_
        intro KK hKK
        try rw [if_pos (by rfl)]
        go_wp2_with fail
        refine hKK _ _ ⟨⟨_, HBE.out _ _⟩, rfl⟩ (fun x => ∃ y : Calm.On w.heap.size w, x = y.1) (fun _ h => h) ⟨⟨_, HBE.out _ _⟩, rfl⟩ ?_
        refine wpQuiet_nil ?_
        go_wp2
        exact bodyPost_ret (v := .tuple #[.agg #[.int .i64 2, .string (K.str ((L.drop k).take 3)), .complex .f64 X Y], .int .i64 ((k : Int) + 3), .int .i64 0]) (by simp [results, Try.results14, go_sem]) rfl ⟨by rw [HV.out], HBE.out _ _⟩
    · have hA := HB4.out h3
      clear HB4
      have hlen : k + 4 ≤ L.length := by
        have h1 := T.isLit_len hA
        rw [List.length_take, List.length_drop] at h1
        rcases h1 with h1 | h1
        · exfalso
          have e3 : (L.drop k).take 3 = L.drop k := List.take_of_length_le (by rw [List.length_drop]; omega)
          have e4 : (L.drop k).take 4 = L.drop k := List.take_of_length_le (by rw [List.length_drop]; omega)
          rw [e3] at h3
          rw [e4] at hA
          rw [h3] at hA; cases hA
        · omega
      have hV := HPV.out.2 h3 hA
      have C1 := HCV.out 4 hlen (((w.alloc tok0).alloc (.cells #[.int .i64 0, .string ⟨#[]⟩, .complex .f64 X Y] 38))) ((HB0.out tok0).alloc (by simp) _)
      unfold tok0 at C1
      have S1 : ∀ w, (Instr.sliceAt 22 (.slice (some ⟨g, o, none⟩) L.length c) (some (.int .i64 k)) (some (.int .i64 ((k : Int) + 4))) none).run Try.prog w = .ok (.slice (dropA (some ⟨g, o, none⟩) c k) 4 (c - k)) w := HS.out 4 hlen
      have HLj := hide (HLT.out 4)
      rw [hA] at HLj
      have HV := hide hV
      have hl3 : ¬ (k : Int) + 4 > (L.length : Int) := by omega
      clear hA hV h3
      go_wp2_with fail
      refine (HLj.out _).mono ?_; rintro _ w' ⟨rfl, rfl⟩
      go_upto_region 17 with fail
      have hb5 : Below w.heap.size w ((((w.alloc tok0).alloc (.cells #[.int .i64 0, .string ⟨#[]⟩, .complex .f64 X Y] 38))).drew) := below_drewN ((HB0.out tok0).alloc (by simp) _) 1
      unfold tok0 at hb5
      have CC := fun y : Calm.On w.heap.size w => HCV.out 4 hlen y.1 y.2
      refine Calm.region_tree (fun x => ∃ y : Calm.On w.heap.size w, x = y.1) (.one [0, 1, 2, 3, 4, 5, 6, 7] 8 (.one [9] 10 (.fin []))) (by kernel_rfl) (by kernel_rfl) (fun _ _ d _ _ h => by cases d <;> exact h) ⟨⟨_, hb5⟩, rfl⟩ ?_
      simp only [Calm.wpT, Calm.wpSt, Calm.pickOps, List.getElem?_toArray, List.getElem?_cons_zero, List.getElem?_cons_succ]
      repeat (go_big_quiet_step (fail))
      refine wpQuiet_nil ?_
      clear CC HCV HS S1 hb5 C1
      have HBE := hide (fun o1 o2 => below_drewN ((HB0.out o1).alloc (by simp) o2) 1)
      intro KK hKK
      try rw [if_pos (by rfl)]
      go_wp2_with fail
      refine hKK _ _ ⟨⟨_, HBE.out _ _⟩, rfl⟩ (fun x => ∃ y : Calm.On w.heap.size w, x = y.1) (fun _ h => h) ⟨⟨_, HBE.out _ _⟩, rfl⟩ ?_
      repeat (go_big_quiet_step (fail))
      refine wpQuiet_nil ?_
      intro KK hKK
      try rw [if_pos (by rfl)]
      go_wp2_with fail
      refine hKK _ _ ⟨⟨_, HBE.out _ _⟩, rfl⟩ (fun x => ∃ y : Calm.On w.heap.size w, x = y.1) (fun _ h => h) ⟨⟨_, HBE.out _ _⟩, rfl⟩ ?_
      refine wpQuiet_nil ?_
      go_wp2
      exact bodyPost_ret (v := .tuple #[.agg #[.int .i64 2, .string (K.str ((L.drop k).take 4)), .complex .f64 X Y], .int .i64 ((k : Int) + 4), .int .i64 0]) (by simp [results, Try.results14, go_sem]) rfl ⟨by rw [HV.out], HBE.out _ _⟩

theorem rone_any (A : Option Addr) (c : Nat) (L : List Int) (k : Nat) (w : World) (hr : RdB w w.heap.size A L) (hl : K.Bytes L) (hc : L.length ≤ c) (hn : L.length ≤ 2000) (hk : k < L.length) (he : (T.piece (L.drop k)).2.2 = 0) (hx : (T.piece (L.drop k)).1 ≠ 0) :
    Calls Try.prog 14 #[.slice A L.length c, .int .i64 k] w fun e w' => e = .returned (oneV L k (T.piece (L.drop k))) ∧ Below w.heap.size w w' := by
  rcases hh : T.head (L.getD k 0) with _ | _
  · by_cases h39 : L.getD k 0 = 39
    · exact one_lit A c L k w hr hl hc hn hk he h39
    · by_cases h37 : L.getD k 0 = 37
      · rcases hp : T.pre (L.drop k) [37, 37] with _ | _
        · exact one_word A c L k w hr hl hc hn hk he hx h37 hp
        · exact one_mark A c L k w hr hl hc hn hk hp
      · exact one_sign A c L k w hr hl hc hn hk he hx hh h39 h37
  · exact one_name A c L k w hr hl hc hn hk he hh
end Go.Proofs.Ytgmcpkecppfkgaa
