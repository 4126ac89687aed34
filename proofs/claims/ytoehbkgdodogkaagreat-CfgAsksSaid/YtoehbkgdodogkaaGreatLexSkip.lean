/- Contracts of lex's pieces that are skipped: up to a text, up to a line's end, comments; over this program. -/
import Derived.Test.YtoehbkgdodogkaaGreatLexQuo
import Derived.Test.YtoehbkgdodogkaaGreatLexStr
namespace Go.Proofs.YtoehbkgdodogkaaGreat
set_option maxRecDepth 100000
open Go.RowKit

/-- The library's one number holds some number, whatever it is. -/
def ML (w : World) : Prop := ∃ m, w.cell? ⟨0, 0, none⟩ = some (.int .i64 m)
theorem ML.below {w w' : World} {B : Nat} (h : ML w) (hb : Below B w w') (hB : w.heap.size ≤ B) : ML w' := by
  obtain ⟨m, hm⟩ := h
  exact ⟨m, (hb.cell (p := ⟨_, 0, none⟩) (Nat.lt_of_lt_of_le (block_lt_of_cell hm) hB)).trans hm⟩
theorem ML.up {w w' : World} (h : ML w) (hb : Below w.heap.size w w') : ML w' := h.below hb (Nat.le_refl _)

theorem RdB.bytesIn {w : World} {B : Nat} {A : Option Addr} {l : List Int} (h : RdB w B A l) : Lib.BytesIn w A l.length l := fun hn => by
  obtain ⟨g, o, e, _, hc⟩ := h (by omega)
  exact ⟨g, o, e, hc⟩
theorem RdB.at_add {w : World} {B : Nat} {a : Addr} {l : List Int} (h : RdB w B (some a) l) : ∀ i, i < l.length → w.cell? (a.add i) = some (.int .u8 (l.getD i 0)) := fun i hi => by
  obtain ⟨g, o, e, _, hc⟩ := h (by omega)
  injection e with e
  subst e
  rw [Go.WideShapes.add_plain]
  exact hc i hi

theorem index_any (A : Option Addr) (hA : A ≠ none) (c B : Nat) (l : List Int) (w : World) (hr : RdB w B A l) (hl : K.Bytes l) (hc : l.length ≤ c) (hn : l.length ≤ 5000) (a2 : Addr) (c2 B2 : Nat) (s : List Int) (h2 : RdB w B2 (some a2) s) (hs : K.Bytes s) (hsn : s.length ≤ 5000) (hm : ML w) :
    Calls Tryz.prog 95 #[.slice A l.length c, .slice (some a2) s.length c2] w fun e w' => e = .returned (.int .i64 (T.ix l s)) ∧ Below w.heap.size w w' := by
  obtain ⟨m, hm⟩ := hm
  cases A with
  | none => exact absurd rfl hA
  | some a1 =>
    refine (Tryz.bytes_Index_at a1 a2 l.length c s.length c2 l s m w rfl rfl hl hs hr.at_add h2.at_add hc (by omega) (by omega) hm).mono fun _ _ h => ⟨h.1, ?_⟩
    obtain ⟨q, rfl⟩ := h.2
    exact below_drewN (Below.refl _ _) q

theorem pre_any (A : Option Addr) (c B : Nat) (l : List Int) (w : World) (hr : RdB w B A l) (hc : l.length ≤ c) (a2 : Addr) (c2 B2 : Nat) (s : List Int) (h2 : RdB w B2 (some a2) s) :
    Calls Tryz.prog 94 #[.slice A l.length c, .slice (some a2) s.length c2] w fun e w' => e = .returned (.bool (T.pre l s)) ∧ w = w' :=
  (Tryz.bytes_HasPrefix_all A (some a2) l.length c s.length c2 l s w rfl rfl hc hr.bytesIn h2.bytesIn).mono fun _ _ h => ⟨h.1, h.2.symm⟩

/-- What is answered of a line: two pieces and whether there is an end. -/
def LineV (A : Option Addr) (l : List Int) (c : Nat) (w : World) (e : Ending) (w' : World) : Prop := ∃ v b, e = .returned (.tuple #[.slice A (T.line l).length c, v, .bool b]) ∧ Below w.heap.size w w'
theorem cut_any (A : Option Addr) (hA : A ≠ none) (c B : Nat) (l : List Int) (w : World) (hr : RdB w B A l) (hl : K.Bytes l) (hc : l.length ≤ c) (hn : l.length ≤ 5000) (a2 : Addr) (c2 B2 : Nat) (h2 : RdB w B2 (some a2) [10]) (hm : ML w) :
    Calls Tryz.prog 96 #[.slice A l.length c, .slice (some a2) 1 c2] w (LineV A l c w) := by
  obtain ⟨m, hm⟩ := hm
  refine (Tryz.bytes_Cut_all A (some a2) l.length c 1 c2 l [10] m w rfl rfl hl (bytes_lit [10] (by decide)) hr.bytesIn h2.bytesIn (fun h => absurd h hA) hc (by omega) (by omega) hm).mono fun _ _ h => ?_
  obtain ⟨he, q, rfl⟩ := h
  have hix : Lib.index (Lib.bytesOf l) (Lib.bytesOf [10]) = T.ix l [10] := rfl
  rw [hix] at he
  unfold Lib.cutV at he
  have hroom := T.ix_room l [10]
  have hb : Below w.heap.size w (w.drewN q) := below_drewN (Below.refl _ _) q
  by_cases h0 : 0 ≤ T.ix l [10]
  · rw [if_pos h0] at he
    have hlen : (T.line l).length = (T.ix l [10]).toNat := by
      unfold T.line
      rw [if_pos h0, List.length_take]
      have := hroom h0
      omega
    rw [← hlen] at he
    exact ⟨_, _, he, hb⟩
  · rw [if_neg h0] at he
    have hlen : T.line l = l := by unfold T.line; rw [if_neg h0]
    unfold LineV
    rw [hlen]
    exact ⟨_, _, he, hb⟩

theorem line_rd {w : World} {B : Nat} {A : Option Addr} {l : List Int} (h : RdB w B A l) : RdB w B A (T.line l) := by
  unfold T.line
  split
  · exact h.take _
  · exact h
theorem line_bytes {l : List Int} (h : K.Bytes l) : K.Bytes (T.line l) := by
  unfold T.line
  split
  · exact h.take _
  · exact h

set_option maxHeartbeats 1000000 in
theorem line_any (A : Option Addr) (hA : A ≠ none) (c : Nat) (l : List Int) (w : World) (hr : RdB w w.heap.size A l) (hl : K.Bytes l) (hc : l.length ≤ c) (hn : l.length ≤ 5000) (hm : ML w) :
    Calls Tryz.prog 76 #[.slice A l.length c] w fun e w' => e = .returned (.slice A (T.line l).length c) ∧ Below w.heap.size w w' := by
  obtain ⟨r1, r2⟩ := litM w [10]
  have HC := hide (cut_any A hA c _ l _ (hr.up r2) hl hc hn _ 1 _ r1 (hm.up r2))
  have HB := hide r2
  have vl := show (convert 33 33 (.slice (some ⟨w.heap.size, 0, none⟩) 1 1)).run Tryz.prog (w.alloc (.cells #[.int .u8 10] 5)) = .ok (.slice (some ⟨w.heap.size, 0, none⟩) 1 1) (w.alloc (cellsM [10])) from lit_conv w [10] 1 1
  clear r1 r2 hr hl hm
  go_enter Tryz.func76, Tryz.ntmps76
  go_wp2_with (simp only [vl])
  refine HC.out.mono ?_; rintro _ w' ⟨v, b, rfl, hb⟩
  have HB2 := hide (HB.out.trans (hb.mono HB.out.size))
  clear hb
  go_wp2
  go_ret
  exact ⟨rfl, HB2.out⟩

set_option maxHeartbeats 1000000 in
theorem skip_any (A : Option Addr) (hA : A ≠ none) (c : Nat) (l : List Int) (f : Nat) (s : List Int) (w : World) (hr : RdB w w.heap.size A l) (hl : K.Bytes l) (hf : f ≤ l.length) (hc : l.length ≤ c) (hn : l.length ≤ 5000) (hs : K.Bytes s) (hsn : s.length ≤ 5000) (hm : ML w) :
    Calls Tryz.prog 75 #[.slice A l.length c, .int .i64 f, .string (K.str s)] w fun e w' => e = .returned (p3v (T.skip l f s)) ∧ Below w.heap.size w w' := by
  obtain ⟨r1, r2, _⟩ := str_rd w s hs
  have HC := hide (index_any (dropA A c f) (dropA_some hA c f) (c - f) _ (l.drop f) _ ((hr.up r2).dropA hc f) (hl.drop f) (by rw [List.length_drop]; omega) (by rw [List.length_drop]; omega) _ (scap w s) _ s r1 hs hsn (hm.up r2))
  rw [List.length_drop] at HC
  have HB := hide r2
  have C1 := str_bytes w s
  have S1 := fun w => slice_from w A c l.length f hf
  have hsz : ((K.str s).size : Int) = (s.length : Int) := by rw [K.str_size]
  have hge := T.ix_ge (l.drop f) s
  have hro := T.ix_room (l.drop f) s
  rw [List.length_drop] at hro
  have HV : Hid (T.skip l f s = if T.ix (l.drop f) s < 0 then (0, 0, 4) else (0, f + (T.ix (l.drop f) s).toNat + s.length, 0)) := hide rfl
  clear r1 r2 hr hl hm hs
  generalize T.skip l f s = R at *
  generalize T.ix (l.drop f) s = x at *
  generalize K.str s = t at *
  generalize dropA A c f = D at *
  by_cases hx : x < 0
  · clear hro
    go_enter Tryz.func75, Tryz.ntmps75
    go_wp2_with (first | simp only [S1] | simp only [C1])
    refine HC.out.mono ?_; rintro _ w' ⟨rfl, hb⟩
    have HB2 := hide (HB.out.trans (hb.mono HB.out.size))
    clear hb
    go_wp2
    go_ret3
    refine ⟨?_, HB2.out⟩
    rw [HV.out, if_pos hx]; rfl
  · obtain ⟨i, rfl⟩ := Int.eq_ofNat_of_zero_le (show 0 ≤ x by omega)
    have hi := hro (by omega)
    simp only [Int.toNat_natCast] at hi
    clear hro hge
    have HX := hide hx
    have hx' : 0 ≤ (i : Int) := by omega
    clear hx
    go_enter Tryz.func75, Tryz.ntmps75
    go_wp2_with (first | simp only [S1] | simp only [C1])
    refine HC.out.mono ?_; rintro _ w' ⟨rfl, hb⟩
    have HB2 := hide (HB.out.trans (hb.mono HB.out.size))
    clear hb
    go_wp2
    go_ret3
    refine ⟨?_, HB2.out⟩
    rw [HV.out, if_neg (by omega)]
    simp [p3v]
end Go.Proofs.YtoehbkgdodogkaaGreat
