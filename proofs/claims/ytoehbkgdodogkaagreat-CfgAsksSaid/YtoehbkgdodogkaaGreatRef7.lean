/- Contracts of the document's own has, past, line, quoted, action of tokens, over this program. -/
import Derived.Test.YtoehbkgdodogkaaGreatLexToks
import Derived.Test.YtoehbkgdodogkaaGreatLexRef
import Derived.Test.YtoehbkgdodogkaaGreatScanL
namespace Go.Proofs.YtoehbkgdodogkaaGreat
set_option maxRecDepth 100000
open Go.RowKit

theorem slice_mid8 (w : World) (A : Option Addr) (c n i j : Nat) (h1 : i ≤ j) (h2 : j ≤ c) : (Instr.sliceAt 33 (.slice A n c) (some (.int .i64 i)) (some (.int .i64 j)) none).run Tryz.prog w = .ok (.slice (dropA A c i) (j - i) (c - i)) w := by
  rw [run_sliceAt_slice _ _ _ _ _ _ (by kernel_rfl), run_slice_lh _ _ _ _ _ (by kernel_rfl) .i64 .i64 (i : Int) (j : Int) (by omega) (by omega) (by omega)]
  have hs : (sizeOf (Tryz.prog.elem 33)).run Tryz.prog w = .ok 1 w := by kernel_rfl
  rw [hs]
  simp [Result.andThen, sliced, dropA]

namespace T
theorem str_list (l : List Int) : (K.str l).toList = Lib.bytesOf l := by
  rw [ByteArray.toList_eq]; rfl
theorem pre_take (l s : List Int) : pre l s = ((K.str (l.take s.length)).toList == (K.str s).toList) := by
  rw [str_list, str_list]
  have e : Lib.bytesOf (l.take s.length) = (Lib.bytesOf l).take (Lib.bytesOf s).length := by simp [Lib.bytesOf, List.map_take]
  rw [e]
  unfold pre Lib.hasPrefix
  rw [Bool.eq_iff_iff, List.isPrefixOf_iff_prefix, beq_iff_eq, List.prefix_iff_eq_take, eq_comm]
theorem pre_short (l s : List Int) (h : l.length < s.length) : pre l s = false := by
  rcases hp : pre l s with _ | _
  · rfl
  · have := pre_len l s hp; omega
theorem ix_cons (z : Int) (r s : List Int) : ix (z :: r) s = if pre (z :: r) s then 0 else if ix r s < 0 then -1 else ix r s + 1 := by
  unfold ix pre Lib.hasPrefix
  rw [show Lib.bytesOf (z :: r) = UInt8.ofNat z.toNat :: Lib.bytesOf r from rfl, Lib.index]
  have := Lib.index_ge (Lib.bytesOf r) (Lib.bytesOf s)
  split
  · rfl
  · by_cases h : Lib.index (Lib.bytesOf r) (Lib.bytesOf s) = -1
    · rw [h]; simp
    · have h1 : (Lib.index (Lib.bytesOf r) (Lib.bytesOf s) == -1) = false := by simpa using h
      rw [h1]
      simp only [Bool.false_eq_true, if_false]
      rw [if_neg (by omega)]
theorem ix_nil (s : List Int) (h : s.length ≠ 0) : ix [] s = -1 := by
  cases s with
  | nil => simp at h
  | cons a b => rfl
theorem ix_next (l s : List Int) (k : Nat) (h : k < l.length) : ix (l.drop k) s = if pre (l.drop k) s then 0 else if ix (l.drop (k + 1)) s < 0 then -1 else ix (l.drop (k + 1)) s + 1 := by
  rw [L.cons_drop l k h, ix_cons]
end T

/-- The place behind the next such text, told from a place on. -/
def T.pastV (l s : List Int) (k : Nat) : Int := if T.ix (l.drop k) s < 0 then -1 else k + T.ix (l.drop k) s + s.length
theorem T.pastV_on (l s : List Int) (k : Nat) (h : k < l.length) (hp : T.pre (l.drop k) s = false) : T.pastV l s k = T.pastV l s (k + 1) := by
  unfold T.pastV
  have hx := T.ix_next l s k h
  rw [hp] at hx
  simp only [Bool.false_eq_true, if_false] at hx
  have hg := T.ix_ge (l.drop (k + 1)) s
  by_cases h1 : T.ix (l.drop (k + 1)) s < 0
  · rw [if_pos h1] at hx
    rw [if_pos (by omega), if_pos h1]
  · rw [if_neg h1] at hx
    rw [if_neg (by omega), if_neg h1, hx]
    simp only [Int.natCast_add]
    omega
theorem T.pastV_here (l s : List Int) (k : Nat) (h : k < l.length) (hp : T.pre (l.drop k) s = true) : T.pastV l s k = k + s.length := by
  unfold T.pastV
  have hx := T.ix_next l s k h
  rw [hp, if_pos rfl] at hx
  rw [hx]; simp
theorem T.pastV_end (l s : List Int) (k : Nat) (h : l.length ≤ k) (hs : s.length ≠ 0) : T.pastV l s k = -1 := by
  unfold T.pastV
  rw [List.drop_eq_nil_of_le h, T.ix_nil s hs]; rfl

theorem T.line_cons (z : Int) (r : List Int) (hb : K.Bytes (z :: r)) : T.line (z :: r) = if z = 10 then [] else z :: T.line r := by
  have hp : T.pre (z :: r) [10] = decide (z = 10) := by
    unfold T.pre Lib.hasPrefix
    simp only [Lib.bytesOf, List.map_cons, List.map_nil, List.isPrefixOf, Bool.and_true]
    have := hb.hd
    rw [Bool.eq_iff_iff, decide_eq_true_iff, beq_iff_eq]
    constructor
    · intro h
      have := congrArg UInt8.toNat h
      simp at this
      omega
    · rintro rfl; rfl
  have hx := T.ix_cons z r [10]
  have hg := T.ix_ge r [10]
  rw [hp] at hx
  unfold T.line
  by_cases h : z = 10
  · rw [if_pos h]
    rw [decide_eq_true h, if_pos rfl] at hx
    rw [hx]; rfl
  · rw [if_neg h]
    rw [decide_eq_false h, if_neg (by simp)] at hx
    by_cases h1 : T.ix r [10] < 0
    · rw [if_pos h1] at hx
      rw [if_neg (by omega), if_neg (by omega)]
    · rw [if_neg h1] at hx
      rw [if_pos (by omega), if_pos (by omega), hx]
      rw [show (T.ix r [10] + 1).toNat = (T.ix r [10]).toNat + 1 by omega]; rfl

/-- The place behind what a quote begins, told from a place on. -/
def T.quoV (q : Int) (l : List Int) (k : Nat) : Int := match T.quoted q (l.drop k) with | none => -1 | some n => k + n
theorem T.quoted_nil (q : Int) : T.quoted q [] = none := by simp [T.quoted]
theorem T.quoV_end (q : Int) (l : List Int) (k : Nat) (h : l.length ≤ k) : T.quoV q l k = -1 := by
  unfold T.quoV
  rw [List.drop_eq_nil_of_le h, T.quoted_nil]
theorem T.quoV_here (q : Int) (l : List Int) (k : Nat) (h : k < l.length) (hq : l.getD k 0 = q) : T.quoV q l k = k + 1 := by
  unfold T.quoV
  rw [L.cons_drop l k h, hq]
  have : T.quoted q (q :: l.drop (k + 1)) = some 1 := by unfold T.quoted; rw [if_pos rfl]
  rw [this]; rfl
theorem T.quoV_on (q : Int) (l : List Int) (k : Nat) (h : k < l.length) (hq : ¬ l.getD k 0 = q) (h92 : ¬ l.getD k 0 = 92) : T.quoV q l k = T.quoV q l (k + 1) := by
  unfold T.quoV
  rw [L.cons_drop l k h]
  have : T.quoted q (l.getD k 0 :: l.drop (k + 1)) = (T.quoted q (l.drop (k + 1))).map (· + 1) := by
    generalize l.drop (k + 1) = r
    cases r with
    | nil =>
      rw [T.quoted_nil]
      have h1 : T.quoted q [l.getD k 0] = none := by
        generalize l.getD k 0 = z at *
        simp [T.quoted, hq, h92]
      rw [h1]; rfl
    | cons a b => rw [T.quoted, if_neg hq, if_neg h92]
  rw [this]
  cases T.quoted q (l.drop (k + 1)) with
  | none => rfl
  | some n => simp only [Option.map_some]; omega
theorem T.quoV_two (q : Int) (l : List Int) (k : Nat) (h : k < l.length) (hq : ¬ l.getD k 0 = q) (h92 : l.getD k 0 = 92) : T.quoV q l k = T.quoV q l (k + 2) := by
  unfold T.quoV
  rw [L.cons_drop l k h]
  by_cases h2 : k + 1 < l.length
  · rw [L.cons_drop l (k + 1) h2]
    have : T.quoted q (l.getD k 0 :: l.getD (k + 1) 0 :: l.drop (k + 1 + 1)) = (T.quoted q (l.drop (k + 2))).map (· + 2) := by
      rw [T.quoted, if_neg hq, if_pos h92]
    rw [this]
    cases T.quoted q (l.drop (k + 2)) with
    | none => rfl
    | some n => simp only [Option.map_some]; omega
  · rw [List.drop_eq_nil_of_le (by omega : l.length ≤ k + 1), List.drop_eq_nil_of_le (by omega : l.length ≤ k + 2), T.quoted_nil]
    have : T.quoted q [l.getD k 0] = none := by rw [T.quoted, if_neg hq, if_pos h92]
    rw [this]

theorem T.act_quo {f : Nat} {z : Int} {r : List Int} {o : Int} {m : Nat} (h : T.act f (z :: r) o = some m) (hz : z = 39 ∨ z = 34) : ∃ f' q m', T.quoted z r = some q ∧ T.act f' (r.drop q) o = some m' ∧ m = m' + (q + 1) := by
  cases f with
  | zero => simp [T.act] at h
  | succ f =>
    rw [T.act] at h
    rw [if_pos hz] at h
    split at h
    · cases h
    · rename_i q hq
      rw [Option.map_eq_some_iff] at h
      obtain ⟨m', h1, h2⟩ := h
      exact ⟨f, q, m', hq, h1, h2.symm⟩
theorem T.act_on {f : Nat} {z : Int} {r : List Int} {o : Int} {m : Nat} (h : T.act f (z :: r) o = some m) (hz : ¬ (z = 39 ∨ z = 34)) (ho : 0 < T.ostep z o) : ∃ f' m', T.act f' r (T.ostep z o) = some m' ∧ m = m' + 1 := by
  cases f with
  | zero => simp [T.act] at h
  | succ f =>
    rw [T.act] at h
    rw [if_neg hz, if_pos ho, Option.map_eq_some_iff] at h
    obtain ⟨m', h1, h2⟩ := h
    exact ⟨f, m', h1, h2.symm⟩
theorem T.act_end {f : Nat} {z : Int} {r : List Int} {o : Int} {m : Nat} (h : T.act f (z :: r) o = some m) (hz : ¬ (z = 39 ∨ z = 34)) (ho : ¬ 0 < T.ostep z o) : m = 1 := by
  cases f with
  | zero => simp [T.act] at h
  | succ f =>
    rw [T.act] at h
    rw [if_neg hz, if_neg ho] at h
    exact (Option.some.inj h).symm
theorem T.act_nil {f : Nat} {o : Int} {m : Nat} (h : T.act f [] o = some m) : False := by
  cases f with
  | zero => simp [T.act] at h
  | succ f => rw [T.act] at h; cases h

end Go.Proofs.YtoehbkgdodogkaaGreat
