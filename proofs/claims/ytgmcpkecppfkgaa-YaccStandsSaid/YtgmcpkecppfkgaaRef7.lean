/- Contracts of the document's own has, past, line, quoted, action of tokens, over this program. -/
import Derived.Test.YtgmcpkecppfkgaaLexToks
import Derived.Test.YtgmcpkecppfkgaaLexRef
import Derived.Test.YtgmcpkecppfkgaaScanL
namespace Go.Proofs.Ytgmcpkecppfkgaa
set_option maxRecDepth 100000
open Go.RowKit

theorem slice_mid8 (w : World) (A : Option Addr) (c n i j : Nat) (h1 : i ≤ j) (h2 : j ≤ c) : (Instr.sliceAt 22 (.slice A n c) (some (.int .i64 i)) (some (.int .i64 j)) none).run Try.prog w = .ok (.slice (dropA A c i) (j - i) (c - i)) w := by
  rw [run_sliceAt_slice _ _ _ _ _ _ (by kernel_rfl), run_slice_lh _ _ _ _ _ (by kernel_rfl) .i64 .i64 (i : Int) (j : Int) (by omega) (by omega) (by omega)]
  have hs : (sizeOf (Try.prog.elem 22)).run Try.prog w = .ok 1 w := by kernel_rfl
  rw [hs]
  simp [Result.andThen, sliced, dropA]

namespace T
theorem str_list (l : List Int) : (K.str l).toList = Lib.bytesOf l := by
  rw [ByteArray.toList_eq]; rfl
theorem pre_take (l s : List Int) : pre l s = ((K.str (l.take s.length)).toList == (K.str s).toList) := by
  rw [str_list, str_list]
  have e : Lib.bytesOf (l.take s.length) = (Lib.bytesOf l).take (Lib.bytesOf s).length := by simp [Lib.bytesOf, List.map_take]
  rw [e]
  unfold pre Lib.hasPrefix
  rw [Bool.eq_iff_iff, List.isPrefixOf_iff_prefix, beq_iff_eq, List.prefix_iff_eq_take, eq_comm]
theorem pre_short (l s : List Int) (h : l.length < s.length) : pre l s = false := by
  rcases hp : pre l s with _ | _
  · rfl
  · have := pre_len l s hp; omega
theorem ix_cons (z : Int) (r s : List Int) : ix (z :: r) s = if pre (z :: r) s then 0 else if ix r s < 0 then -1 else ix r s + 1 := by
  unfold ix pre Lib.hasPrefix
  rw [show Lib.bytesOf (z :: r) = UInt8.ofNat z.toNat :: Lib.bytesOf r from rfl, Lib.index]
  have := Lib.index_ge (Lib.bytesOf r) (Lib.bytesOf s)
  split
  · rfl
  · by_cases h : Lib.index (Lib.bytesOf r) (Lib.bytesOf s) = -1
    · rw [h]; simp
    · have h1 : (Lib.index (Lib.bytesOf r) (Lib.bytesOf s) == -1) = false := by simpa using h
      rw [h1]
      simp only [Bool.false_eq_true, if_false]
      rw [if_neg (by omega)]
theorem ix_nil (s : List Int) (h : s.length ≠ 0) : ix [] s = -1 := by
  cases s with
  | nil => simp at h
  | cons a b => rfl
theorem ix_next (l s : List Int) (k : Nat) (h : k < l.length) : ix (l.drop k) s = if pre (l.drop k) s then 0 else if ix (l.drop (k + 1)) s < 0 then -1 else ix (l.drop (k + 1)) s + 1 := by
  rw [L.cons_drop l k h, ix_cons]
end T

theorem rhas_any (A : Option Addr) (c B : Nat) (l s : List Int) (k : Nat) (w : World) (hr : RdB w B A l) (hl : K.Bytes l) (hc : l.length ≤ c) (hn : l.length ≤ 5000) (hk : k ≤ l.length) (hs : s.length ≤ 5000) :
    Calls Try.prog 29 #[.slice A l.length c, .int .i64 k, .string (K.str s)] w fun e w' => e = .returned (.bool (T.pre (l.drop k) s)) ∧ w = w' := by
  have hsz := K.str_size s
  by_cases h : k + s.length ≤ l.length
  · have hp := T.pre_take (l.drop k) s
    have C1 := str_conv (((hr.dropA hc k).take s.length)) ((hl.drop k).take s.length) (c - k)
    have S1 := fun w => slice_mid8 w A c l.length k (k + s.length) (by omega) (by omega)
    rw [List.length_take, List.length_drop, Nat.min_eq_left (by omega)] at C1
    rw [show k + s.length - k = s.length by omega] at S1
    have hsz2 : (k : Int) + ((K.str s).size : Int) = ((k + s.length : Nat) : Int) := by rw [hsz]; omega
    have h1 : ((k + s.length : Nat) : Int) ≤ (l.length : Int) := by omega
    have HP := hide hp
    clear hp hsz hr hl hk hs hc
    generalize T.pre (l.drop k) s = pb at *
    generalize K.str (List.take s.length (List.drop k l)) = st at *
    generalize K.str s = s2 at *
    generalize k + s.length = m at *
    generalize dropA A c k = D at *
    generalize c - k = c2 at *
    generalize s.length = sl at *
    go_enter Try.func29, Try.ntmps29
    go_wp2_with (first | simp only [S1] | simp only [C1])
    go_ret
    exact ⟨ret_bool HP.out.symm, rfl⟩
  · rw [T.pre_short (l.drop k) s (by rw [List.length_drop]; omega)]
    have h1 : ¬ (k : Int) + ((K.str s).size : Int) ≤ (l.length : Int) := by rw [hsz]; omega
    have h2 : (k : Int) + ((K.str s).size : Int) ≤ 20000 := by rw [hsz]; omega
    have h3 : 0 ≤ (k : Int) + ((K.str s).size : Int) := by omega
    clear hr hl hk hs hc hsz
    generalize K.str s = s2 at *
    go_enter Try.func29, Try.ntmps29
    go_wp2
    go_ret
    exact ⟨rfl, rfl⟩

/-- The place behind the next such text, told from a place on. -/
def T.pastV (l s : List Int) (k : Nat) : Int := if T.ix (l.drop k) s < 0 then -1 else k + T.ix (l.drop k) s + s.length
theorem T.pastV_on (l s : List Int) (k : Nat) (h : k < l.length) (hp : T.pre (l.drop k) s = false) : T.pastV l s k = T.pastV l s (k + 1) := by
  unfold T.pastV
  have hx := T.ix_next l s k h
  rw [hp] at hx
  simp only [Bool.false_eq_true, if_false] at hx
  have hg := T.ix_ge (l.drop (k + 1)) s
  by_cases h1 : T.ix (l.drop (k + 1)) s < 0
  · rw [if_pos h1] at hx
    rw [if_pos (by omega), if_pos h1]
  · rw [if_neg h1] at hx
    rw [if_neg (by omega), if_neg h1, hx]
    simp only [Int.natCast_add]
    omega
theorem T.pastV_here (l s : List Int) (k : Nat) (h : k < l.length) (hp : T.pre (l.drop k) s = true) : T.pastV l s k = k + s.length := by
  unfold T.pastV
  have hx := T.ix_next l s k h
  rw [hp, if_pos rfl] at hx
  rw [hx]; simp
theorem T.pastV_end (l s : List Int) (k : Nat) (h : l.length ≤ k) (hs : s.length ≠ 0) : T.pastV l s k = -1 := by
  unfold T.pastV
  rw [List.drop_eq_nil_of_le h, T.ix_nil s hs]; rfl

set_option maxHeartbeats 1000000 in
theorem rpast_any (A : Option Addr) (c B : Nat) (l s : List Int) (k : Nat) (w : World) (hr : RdB w B A l) (hl : K.Bytes l) (hc : l.length ≤ c) (hn : l.length ≤ 5000) (hk : k ≤ 6000) (hs : s.length ≤ 5000) (hs0 : s.length ≠ 0) :
    Calls Try.prog 30 #[.slice A l.length c, .int .i64 k, .string (K.str s)] w fun e w' => e = .returned (.int .i64 (T.pastV l s k)) ∧ w = w' := by
  have HP := hide (fun (j : Nat) (h : j ≤ l.length) => rhas_any A c B l s j w hr hl hc hn h hs)
  have hsz := hide (K.str_size s)
  have HE := hide (fun j h => T.pastV_end l s j h hs0)
  have HH := hide (T.pastV_here l s)
  have HO := hide (T.pastV_on l s)
  clear hr hl hc hs0
  go_enter Try.func30, Try.ntmps30
  go_wp2
  go_loop [1] (fun vi => ∃ (j : Nat), j ≤ 6000 ∧ vi = .int .i64 j ∧ T.pastV l s j = T.pastV l s k) (fun vi => 6001 - (intOf vi).toNat)
  case atStart => exact ⟨k, hk, rfl, rfl⟩
  case round =>
    obtain ⟨j, hj, rfl, he⟩ := hrel
    have HV := hide he
    clear he
    by_cases hlt : j < l.length
    · have HPj := hide (HP.out j (by omega))
      rcases hb : T.pre (l.drop j) s with _ | _
      · rw [hb] at HPj
        have HN := hide (HO.out j hlt hb)
        clear hb HP HE HH HO
        go_wp2_with fail
        refine HPj.out.mono ?_; rintro _ w' ⟨rfl, rfl⟩
        go_wp2
        go_round
        case rel => exact ⟨j + 1, by omega, by go_num, by rw [← HV.out, HN.out]⟩
        case measure => simp [intOf]; omega
      · rw [hb] at HPj
        have HN := hide (HH.out j hlt hb)
        clear hb HP HE HH HO
        have hsz2 := hsz.out
        have hb1 : (j : Int) + ((K.str s).size : Int) ≤ 20000 := by rw [hsz2]; omega
        have HZ := hide hsz2
        clear hsz2 hsz
        generalize K.str s = s2 at *
        go_wp2_with fail
        refine HPj.out.mono ?_; rintro _ w' ⟨rfl, rfl⟩
        go_wp2
        go_ret
        exact ⟨ret_int (by rw [← HV.out, HN.out, HZ.out]), rfl⟩
    · have HN := hide (HE.out j (by omega))
      clear HP HE HH HO
      go_wp2
      go_ret
      exact ⟨ret_int (by rw [← HV.out, HN.out]), rfl⟩

theorem T.line_cons (z : Int) (r : List Int) (hb : K.Bytes (z :: r)) : T.line (z :: r) = if z = 10 then [] else z :: T.line r := by
  have hp : T.pre (z :: r) [10] = decide (z = 10) := by
    unfold T.pre Lib.hasPrefix
    simp only [Lib.bytesOf, List.map_cons, List.map_nil, List.isPrefixOf, Bool.and_true]
    have := hb.hd
    rw [Bool.eq_iff_iff, decide_eq_true_iff, beq_iff_eq]
    constructor
    · intro h
      have := congrArg UInt8.toNat h
      simp at this
      omega
    · rintro rfl; rfl
  have hx := T.ix_cons z r [10]
  have hg := T.ix_ge r [10]
  rw [hp] at hx
  unfold T.line
  by_cases h : z = 10
  · rw [if_pos h]
    rw [decide_eq_true h, if_pos rfl] at hx
    rw [hx]; rfl
  · rw [if_neg h]
    rw [decide_eq_false h, if_neg (by simp)] at hx
    by_cases h1 : T.ix r [10] < 0
    · rw [if_pos h1] at hx
      rw [if_neg (by omega), if_neg (by omega)]
    · rw [if_neg h1] at hx
      rw [if_pos (by omega), if_pos (by omega), hx]
      rw [show (T.ix r [10] + 1).toNat = (T.ix r [10]).toNat + 1 by omega]; rfl

set_option maxHeartbeats 1000000 in
theorem rline_any (A : Option Addr) (c B : Nat) (l : List Int) (k : Nat) (w : World) (hr : RdB w B A l) (hl : K.Bytes l) (hn : l.length ≤ 5000) (hk : k ≤ l.length) :
    Calls Try.prog 31 #[.slice A l.length c, .int .i64 k] w fun e w' => e = .returned (.int .i64 ((k + (T.line (l.drop k)).length : Nat) : Int)) ∧ w = w' := by
  go_enter Try.func31, Try.ntmps31
  go_wp2
  go_loop [1] (fun vi => ∃ (j : Nat), j ≤ l.length ∧ vi = .int .i64 j ∧ j + (T.line (l.drop j)).length = k + (T.line (l.drop k)).length) (fun vi => l.length - (intOf vi).toNat)
  case atStart => exact ⟨k, hk, rfl, rfl⟩
  case round =>
    obtain ⟨j, hj, rfl, he⟩ := hrel
    have HV := hide he
    clear he
    by_cases hlt : j < l.length
    · obtain ⟨g, o, rfl, _, hcl⟩ := hr (by omega)
      have hcell := hcl j (by omega)
      have hcd := L.cons_drop l j hlt
      have hlc := T.line_cons (l.getD j 0) (l.drop (j + 1)) (hcd ▸ hl.drop j)
      rw [← hcd] at hlc
      have HL := hide hlc
      clear hcl hr hl hcd hlc
      generalize l.getD j 0 = z at *
      by_cases h10 : z = 10
      · subst h10
        go_wp2
        go_ret
        exact ⟨ret_int (by have h := HV.out; have h2 := HL.out; simp only [if_true] at h2; rw [h2] at h; simp at h; omega), rfl⟩
      · have h11 : (z == 10) = false := by simpa using h10
        have HN := hide h10
        clear h10
        go_wp2
        go_round
        case rel => exact ⟨j + 1, by omega, by go_num, by rw [← HV.out, HL.out, if_neg HN.out]; simp; omega⟩
        case measure => simp [intOf]; omega
    · obtain rfl : j = l.length := by omega
      clear hr hl
      go_wp2
      go_ret
      exact ⟨ret_int (by have h := HV.out; rw [List.drop_length, show T.line [] = [] from rfl] at h; simp at h; omega), rfl⟩

/-- The place behind what a quote begins, told from a place on. -/
def T.quoV (q : Int) (l : List Int) (k : Nat) : Int := match T.quoted q (l.drop k) with | none => -1 | some n => k + n
theorem T.quoted_nil (q : Int) : T.quoted q [] = none := by simp [T.quoted]
theorem T.quoV_end (q : Int) (l : List Int) (k : Nat) (h : l.length ≤ k) : T.quoV q l k = -1 := by
  unfold T.quoV
  rw [List.drop_eq_nil_of_le h, T.quoted_nil]
theorem T.quoV_here (q : Int) (l : List Int) (k : Nat) (h : k < l.length) (hq : l.getD k 0 = q) : T.quoV q l k = k + 1 := by
  unfold T.quoV
  rw [L.cons_drop l k h, hq]
  have : T.quoted q (q :: l.drop (k + 1)) = some 1 := by unfold T.quoted; rw [if_pos rfl]
  rw [this]; rfl
theorem T.quoV_on (q : Int) (l : List Int) (k : Nat) (h : k < l.length) (hq : ¬ l.getD k 0 = q) (h92 : ¬ l.getD k 0 = 92) : T.quoV q l k = T.quoV q l (k + 1) := by
  unfold T.quoV
  rw [L.cons_drop l k h]
  have : T.quoted q (l.getD k 0 :: l.drop (k + 1)) = (T.quoted q (l.drop (k + 1))).map (· + 1) := by
    generalize l.drop (k + 1) = r
    cases r with
    | nil =>
      rw [T.quoted_nil]
      have h1 : T.quoted q [l.getD k 0] = none := by
        generalize l.getD k 0 = z at *
        simp [T.quoted, hq, h92]
      rw [h1]; rfl
    | cons a b => rw [T.quoted, if_neg hq, if_neg h92]
  rw [this]
  cases T.quoted q (l.drop (k + 1)) with
  | none => rfl
  | some n => simp only [Option.map_some]; omega
theorem T.quoV_two (q : Int) (l : List Int) (k : Nat) (h : k < l.length) (hq : ¬ l.getD k 0 = q) (h92 : l.getD k 0 = 92) : T.quoV q l k = T.quoV q l (k + 2) := by
  unfold T.quoV
  rw [L.cons_drop l k h]
  by_cases h2 : k + 1 < l.length
  · rw [L.cons_drop l (k + 1) h2]
    have : T.quoted q (l.getD k 0 :: l.getD (k + 1) 0 :: l.drop (k + 1 + 1)) = (T.quoted q (l.drop (k + 2))).map (· + 2) := by
      rw [T.quoted, if_neg hq, if_pos h92]
    rw [this]
    cases T.quoted q (l.drop (k + 2)) with
    | none => rfl
    | some n => simp only [Option.map_some]; omega
  · rw [List.drop_eq_nil_of_le (by omega : l.length ≤ k + 1), List.drop_eq_nil_of_le (by omega : l.length ≤ k + 2), T.quoted_nil]
    have : T.quoted q [l.getD k 0] = none := by rw [T.quoted, if_neg hq, if_pos h92]
    rw [this]

set_option maxHeartbeats 1000000 in
theorem rquoted_any (A : Option Addr) (c B : Nat) (l : List Int) (k : Nat) (w : World) (hr : RdB w B A l) (hn : l.length ≤ 5000) (hk : k < l.length) :
    Calls Try.prog 56 #[.slice A l.length c, .int .i64 k] w fun e w' => e = .returned (.int .i64 (T.quoV (l.getD k 0) l (k + 1))) ∧ w = w' := by
  obtain ⟨g, o, rfl, _, hcl⟩ := hr (by omega)
  have hcell0 := hcl k hk
  have HE := hide (T.quoV_end (l.getD k 0) l)
  have HH := hide (T.quoV_here (l.getD k 0) l)
  have HO := hide (T.quoV_on (l.getD k 0) l)
  have HT := hide (T.quoV_two (l.getD k 0) l)
  have HC := hide hcl
  clear hcl hr
  generalize l.getD k 0 = q at *
  go_enter Try.func56, Try.ntmps56
  go_wp2
  go_loop [1] (fun vi => ∃ (j : Nat), j ≤ l.length + 1 ∧ vi = .int .i64 j ∧ T.quoV q l j = T.quoV q l (k + 1)) (fun vi => l.length + 2 - (intOf vi).toNat)
  case atStart => exact ⟨k + 1, by omega, by go_num, rfl⟩
  case round =>
    clear hcell0
    obtain ⟨j, hj, rfl, he⟩ := hrel
    have HV := hide he
    clear he
    by_cases hlt : j < l.length
    · have hcell := HC.out j hlt
      by_cases hz : l.getD j 0 = q
      · have HN := hide (HH.out j hlt hz)
        have hz' : (l.getD j 0 == q) = true := by simpa using hz
        clear hz HE HH HO HT HC
        generalize l.getD j 0 = z at *
        go_wp2
        go_ret
        exact ⟨ret_int (by rw [← HV.out, HN.out]), rfl⟩
      · have hz' : (l.getD j 0 == q) = false := by simpa using hz
        by_cases h92 : l.getD j 0 = 92
        · have HN := hide (HT.out j hlt hz h92)
          have h92' : (l.getD j 0 == 92) = true := by simpa using h92
          clear hz h92 HE HH HO HT HC
          generalize l.getD j 0 = z at *
          go_wp2
          go_round
          case rel => exact ⟨j + 2, by omega, by go_num, by rw [← HV.out, HN.out]⟩
          case measure => simp [intOf]; omega
        · have HN := hide (HO.out j hlt hz h92)
          have h92' : (l.getD j 0 == 92) = false := by simpa using h92
          clear hz h92 HE HH HO HT HC
          generalize l.getD j 0 = z at *
          go_wp2
          go_round
          case rel => exact ⟨j + 1, by omega, by go_num, by rw [← HV.out, HN.out]⟩
          case measure => simp [intOf]; omega
    · have HN := hide (HE.out j (by omega))
      clear HE HH HO HT HC
      go_wp2
      go_ret
      exact ⟨ret_int (by rw [← HV.out, HN.out]), rfl⟩

theorem T.act_quo {f : Nat} {z : Int} {r : List Int} {o : Int} {m : Nat} (h : T.act f (z :: r) o = some m) (hz : z = 39 ∨ z = 34) : ∃ f' q m', T.quoted z r = some q ∧ T.act f' (r.drop q) o = some m' ∧ m = m' + (q + 1) := by
  cases f with
  | zero => simp [T.act] at h
  | succ f =>
    rw [T.act] at h
    rw [if_pos hz] at h
    split at h
    · cases h
    · rename_i q hq
      rw [Option.map_eq_some_iff] at h
      obtain ⟨m', h1, h2⟩ := h
      exact ⟨f, q, m', hq, h1, h2.symm⟩
theorem T.act_on {f : Nat} {z : Int} {r : List Int} {o : Int} {m : Nat} (h : T.act f (z :: r) o = some m) (hz : ¬ (z = 39 ∨ z = 34)) (ho : 0 < T.ostep z o) : ∃ f' m', T.act f' r (T.ostep z o) = some m' ∧ m = m' + 1 := by
  cases f with
  | zero => simp [T.act] at h
  | succ f =>
    rw [T.act] at h
    rw [if_neg hz, if_pos ho, Option.map_eq_some_iff] at h
    obtain ⟨m', h1, h2⟩ := h
    exact ⟨f, m', h1, h2.symm⟩
theorem T.act_end {f : Nat} {z : Int} {r : List Int} {o : Int} {m : Nat} (h : T.act f (z :: r) o = some m) (hz : ¬ (z = 39 ∨ z = 34)) (ho : ¬ 0 < T.ostep z o) : m = 1 := by
  cases f with
  | zero => simp [T.act] at h
  | succ f =>
    rw [T.act] at h
    rw [if_neg hz, if_neg ho] at h
    exact (Option.some.inj h).symm
theorem T.act_nil {f : Nat} {o : Int} {m : Nat} (h : T.act f [] o = some m) : False := by
  cases f with
  | zero => simp [T.act] at h
  | succ f => rw [T.act] at h; cases h

set_option maxHeartbeats 2000000 in
theorem raction_any (A : Option Addr) (c B : Nat) (l : List Int) (k n f0 : Nat) (w : World) (hr : RdB w B A l) (hn : l.length ≤ 5000) (hk : k < l.length) (hz : l.getD k 0 = 123) (ha : T.act f0 (l.drop k) 0 = some n) :
    Calls Try.prog 32 #[.slice A l.length c, .int .i64 k] w fun e w' => e = .returned (.int .i64 ((k + n : Nat) : Int)) ∧ w = w' := by
  have HQ := hide (fun (j : Nat) (h : j < l.length) => rquoted_any A c B l j w hr hn h)
  have HA := hide ha
  have HZ := hide hz
  clear ha hz
  go_enter Try.func32, Try.ntmps32
  go_wp2
  go_loop [1, 5] (fun vi vo => ∃ (j f m : Nat) (o : Int), j ≤ l.length ∧ vi = .int .i64 j ∧ vo = .int .i64 o ∧ 0 ≤ o ∧ o + k ≤ j ∧ T.act f (l.drop j) o = some m ∧ j + m = k + n ∧ (o = 0 → l.getD j 0 = 123)) (fun vi _ => l.length - (intOf vi).toNat)
  case atStart => exact ⟨k, f0, n, 0, by omega, rfl, rfl, by omega, by omega, HA.out, rfl, fun _ => HZ.out⟩
  case round =>
    clear HA HZ
    obtain ⟨j, f, m, o, hj, rfl, rfl, ho, hok, hact, hm, h123⟩ := hrel
    have HM := hide hm
    clear hm
    by_cases hlt : j < l.length
    · obtain ⟨g, o', rfl, _, hcl⟩ := hr (by omega)
      have hcell := hcl j hlt
      have HQj := hide (HQ.out j hlt)
      rw [L.cons_drop l j hlt] at hact
      have HACT := hide hact
      clear hact HQ hcl hr
      have HD : Hid (∀ q, (l.drop (j + 1)).drop q = l.drop (j + 1 + q)) := hide (fun q => by rw [List.drop_drop])
      by_cases hq : l.getD j 0 = 39 ∨ l.getD j 0 = 34
      · obtain ⟨f', q, m', h1, h2, h3⟩ := T.act_quo HACT.out hq
        have hql := T.quoted_le _ _ _ h1
        rw [List.length_drop] at hql
        have hv : T.quoV (l.getD j 0) l (j + 1) = ((j + 1 + q : Nat) : Int) := by unfold T.quoV; rw [h1]; simp only; omega
        rw [hv] at HQj
        rw [HD.out] at h2
        have H2 := hide h2
        have H3 := hide h3
        have ho1 : ¬ o = 0 := fun e => by have := h123 e; omega
        have ho2 : (o == 0) = false := by simpa using ho1
        clear h1 h2 h3 hv HACT h123
        have hqq : (l.getD j 0 == 123) = false ∧ (l.getD j 0 == 125) = false := by
          rcases hq with e | e <;> rw [e] <;> exact ⟨rfl, rfl⟩
        obtain ⟨q1, q2⟩ := hqq
        have hpos : 0 ≤ ((j + 1 + q : Nat) : Int) := by omega
        have hle : j + 1 + q ≤ l.length := by omega
        rcases hq with hq | hq
        · have q3 : (l.getD j 0 == 39) = true := by rw [hq]; rfl
          clear hq
          generalize l.getD j 0 = z at *
          generalize hx : j + 1 + q = x at *
          have HX := hide hx
          clear hx
          go_wp2_with fail
          refine HQj.out.mono ?_; rintro _ w' ⟨rfl, rfl⟩
          go_wp2
          go_round
          case rel => exact ⟨x, f', m', o, by omega, rfl, rfl, ho, by have := HX.out; omega, H2.out, by have := H3.out; have := HM.out; have := HX.out; omega, fun e => absurd e ho1⟩
          case measure => have := HX.out; simp [intOf]; omega
        · have q3 : (l.getD j 0 == 39) = false := by rw [hq]; rfl
          have q4 : (l.getD j 0 == 34) = true := by rw [hq]; rfl
          clear hq
          generalize l.getD j 0 = z at *
          generalize hx : j + 1 + q = x at *
          have HX := hide hx
          clear hx
          go_wp2_with fail
          refine HQj.out.mono ?_; rintro _ w' ⟨rfl, rfl⟩
          go_wp2
          go_round
          case rel => exact ⟨x, f', m', o, by omega, rfl, rfl, ho, by have := HX.out; omega, H2.out, by have := H3.out; have := HM.out; have := HX.out; omega, fun e => absurd e ho1⟩
          case measure => have := HX.out; simp [intOf]; omega
      · have q3 : (l.getD j 0 == 39) = false := by simpa using fun e => hq (.inl e)
        have q4 : (l.getD j 0 == 34) = false := by simpa using fun e => hq (.inr e)
        have HON := hide (T.act_on HACT.out hq)
        have HEN := hide (T.act_end HACT.out hq)
        clear HACT hq HQj HD
        by_cases h1 : l.getD j 0 = 123
        · have q1 : (l.getD j 0 == 123) = true := by rw [h1]; rfl
          have hs : T.ostep (l.getD j 0) o = o + 1 := by unfold T.ostep; rw [if_pos h1]
          obtain ⟨f', m', h2, h3⟩ := HON.out (by rw [hs]; omega)
          rw [hs] at h2
          have H2 := hide h2
          have H3 := hide h3
          clear HON HEN h1 hs h2 h3 h123
          have ho2 : (o + 1 == 0) = false := by rw [beq_eq_false_iff_ne]; omega
          generalize l.getD j 0 = z at *
          go_wp2
          go_round
          case rel => exact ⟨j + 1, f', m', o + 1, by omega, by go_num, by go_num, by omega, by omega, H2.out, by have := H3.out; have := HM.out; omega, fun e => by omega⟩
          case measure => simp [intOf]; omega
        · have q1 : (l.getD j 0 == 123) = false := by simpa using h1
          have ho1 : ¬ o = 0 := fun e => h1 (h123 e)
          by_cases h5 : l.getD j 0 = 125
          · have q2 : (l.getD j 0 == 125) = true := by rw [h5]; rfl
            have hs : T.ostep (l.getD j 0) o = o - 1 := by unfold T.ostep; rw [if_neg h1, if_pos h5]
            by_cases h0 : 0 < o - 1
            · obtain ⟨f', m', h2, h3⟩ := HON.out (by rw [hs]; omega)
              rw [hs] at h2
              have H2 := hide h2
              have H3 := hide h3
              clear HON HEN h1 h5 hs h2 h3 h123
              have ho2 : (o - 1 == 0) = false := by rw [beq_eq_false_iff_ne]; omega
              generalize l.getD j 0 = z at *
              go_wp2
              go_round
              case rel => exact ⟨j + 1, f', m', o - 1, by omega, by go_num, by go_num, by omega, by omega, H2.out, by have := H3.out; have := HM.out; omega, fun e => by omega⟩
              case measure => simp [intOf]; omega
            · have hm1 := HEN.out (by rw [hs]; omega)
              have H3 := hide hm1
              have ho3 : o = 1 := by omega
              subst ho3
              clear HON HEN h1 h5 hs hm1 h123 h0 ho1
              generalize l.getD j 0 = z at *
              go_wp2
              go_ret
              exact ⟨ret_int (by have := HM.out; have := H3.out; omega), rfl⟩
          · have q2 : (l.getD j 0 == 125) = false := by simpa using h5
            have hs : T.ostep (l.getD j 0) o = o := by unfold T.ostep; rw [if_neg h1, if_neg h5]
            obtain ⟨f', m', h2, h3⟩ := HON.out (by rw [hs]; omega)
            rw [hs] at h2
            have H2 := hide h2
            have H3 := hide h3
            clear HON HEN h1 h5 hs h2 h3 h123
            have ho2 : (o == 0) = false := by simpa using ho1
            generalize l.getD j 0 = z at *
            go_wp2
            go_round
            case rel => exact ⟨j + 1, f', m', o, by omega, by go_num, rfl, by omega, by omega, H2.out, by have := H3.out; have := HM.out; omega, fun e => absurd e ho1⟩
            case measure => simp [intOf]; omega
    · exfalso
      rw [List.drop_eq_nil_of_le (by omega)] at hact
      exact T.act_nil hact
end Go.Proofs.Ytgmcpkecppfkgaa
