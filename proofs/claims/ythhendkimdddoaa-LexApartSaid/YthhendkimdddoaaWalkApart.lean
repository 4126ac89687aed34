/- The walk of the statement of names and literals that are parted by blanks, over this program. -/
import Derived.Test.YthhendkimdddoaaWalkOrder7
import Derived.Test.YthhendkimdddoaaJoin
import Derived.Test.YthhendkimdddoaaWordsS
import Derived.Lib.AppendStr
namespace Go.Proofs.Ythhendkimdddoaa
open Go.RowKit

/-- A text's bytes. -/
def K.bs (s : ByteArray) : List Int := s.data.toList.map fun b => (b.toNat : Int)
theorem K.bs_bytes (s : ByteArray) : K.Bytes (K.bs s) := by
  intro z hz
  obtain ⟨b, _, rfl⟩ := List.mem_map.1 hz
  have := b.toNat_lt
  omega
theorem K.bs_str (s : ByteArray) : K.str (K.bs s) = s := by
  unfold K.str K.bytes K.bs
  rw [List.map_map]
  have : ((fun z : Int => UInt8.ofNat z.toNat) ∘ fun b : UInt8 => (b.toNat : Int)) = id := by
    funext b; simp
  rw [this]; simp
theorem K.bs_len (s : ByteArray) : (K.bs s).length = s.size := by simp [K.bs]

/-- append of a text's bytes to a slice of the call's own. -/
theorem apS_arm {w : World} {ops : Array Oper} {rest : List Oper} {o : Oper} {a : Act} {Q : Exit → Act → World → Prop}
    (hgd : o.guard = none) (sl x : Operand) (t u : TypeId) (ho : o.op = .call { callee := .builtin .append, args := #[sl, x], argTypes := #[t, u] }) (ht : Try.prog.underlying t = some (.slice 5)) (hu : Try.prog.underlying u = some .string)
    (base : Nat) (v : Value) (xs : List Int) (hs : a.eval sl = v) (hown : OwnB w base v xs) (s : ByteArray) (hx : a.eval x = .string s)
    (hlen : xs.length + s.size ≤ 1000000) (hbase : base ≤ w.heap.size)
    (hK : ∀ v' w', OwnB w' base v' (xs ++ K.bs s) → w.grownBy w' v.ownBlock → wpList Try.prog ops Q rest (a.put o.dst v') w') :
    wpList Try.prog ops Q (o :: rest) a w := by
  obtain ⟨i, hi, hz0, hz1, hz2⟩ := info_parts infoB
  refine Go.Lib.wpList_append_own_string w hgd sl x t u ho base 5 i ht hu hi hz0 hz1 hz2 v xs.length (xs.map (Value.int .u8)) hs hown s hx (by unfold maxLen; omega) (by omega) hbase fun v' w' h1 h2 _ => hK v' w' ?_ h2
  unfold OwnB
  have e : (K.bs s).map (Value.int .u8) = Go.Lib.strCells s := by simp [K.bs, Go.Lib.strCells]
  rw [List.length_append, K.bs_len, List.map_append, e]
  exact h1

theorem lexApart_many (A : Option Addr) (c n : Nat) (w : World) (hm : ML w) (h : (n : Int) > 100) :
    Calls Try.prog 5 #[.slice A n c] w fun e w' => e = .returned (.bool true) ∧ Below w.heap.size w w' := by
  have HA := hide (alive7_any w hm)
  clear hm
  go_enter Try.func5, Try.ntmps5
  go_wp2_with fail
  refine HA.out.mono ?_; rintro _ w1 ⟨rfl, hb⟩
  have HB := hide hb
  clear hb
  go_wp2
  go_ret
  exact ⟨rfl, HB.out⟩

/-- The words of texts, up to one. -/
def wds (ss : List ByteArray) : List (List Int) := ss.map K.bs
theorem wds_next (ss : List ByteArray) (i : Nat) (h : i < ss.length) : T.join (wds (ss.take (i + 1))) = T.join (wds (ss.take i)) ++ K.bs (ss.getD i ByteArray.empty) ++ [32] := by
  have e : ss.take (i + 1) = ss.take i ++ [ss.getD i ByteArray.empty] := by
    rw [List.take_succ_eq_append_getElem h]; simp [List.getD, h]
  rw [e]
  unfold wds
  rw [List.map_append, List.map_singleton, T.join_snoc]

set_option maxHeartbeats 4000000 in
set_option maxRecDepth 100000 in
theorem lexApart_few (A : Option Addr) (c : Nat) (ss : List ByteArray) (w : World) (hr : RdS w w.heap.size A ss) (hc : ss.length ≤ c) (hm : ML w) (hn : ss.length ≤ 100) :
    Calls Try.prog 5 #[.slice A ss.length c] w fun e w' => e = .returned (.bool true) ∧ Below w.heap.size w w' := by
  have HA := hide (alive7_any w hm)
  have HR := hide hr
  have HM := hide hm
  have HC := hide hc
  have h4 : ¬ (ss.length : Int) > 100 := by omega
  clear hr hm hc
  go_enter Try.func5, Try.ntmps5
  go_wp2_with fail
  refine HA.out.mono ?_; rintro _ w1 ⟨rfl, hb⟩
  have HB := hide hb
  clear hb HA
  go_wp2
  go_loopw [4, 3] (fun vi vb wr => ∃ i : Nat, i ≤ ss.length ∧ vi = .int .i64 i ∧ OwnB wr w.heap.size vb (T.join (wds (ss.take i))) ∧ (∀ l ∈ wds (ss.take i), T.word l = true) ∧ Below w.heap.size w wr) (fun vi _ _ => ss.length - (intOf vi).toNat)
  case atStart => exact ⟨0, by omega, rfl, OwnB.nil _ _, by simp [wds], HB.out⟩
  case round =>
    clear HB
    obtain ⟨i, hi, rfl, ho, hw, hb⟩ := hrel
    have HO := hide ho
    have HW := hide hw
    have HB := hide hb
    clear ho hw hb
    by_cases hlt : i < ss.length
    · obtain ⟨g, o, hA, hg, hcl⟩ := HR.out (by omega)
      have hcell := (HB.out.cell (p := ⟨g, o + i, none⟩) hg).trans (hcl i hlt)
      have HNX := hide (wds_next ss i hlt)
      have HWX : Hid (wds (ss.take (i + 1)) = wds (ss.take i) ++ [K.bs (ss.getD i ByteArray.empty)]) := hide (by
        have e : ss.take (i + 1) = ss.take i ++ [ss.getD i ByteArray.empty] := by
          rw [List.take_succ_eq_append_getElem hlt]; simp [List.getD, hlt]
        rw [e]; simp [wds])
      clear hcl hg
      subst hA
      generalize ss.getD i ByteArray.empty = s at *
      have P1 := hide (fun w => rname_any (K.bs s) (K.bs_bytes s) w)
      have P2 := hide (fun w => rlit_any (K.bs s) (K.bs_bytes s) w)
      rw [K.bs_str] at P1 P2
      have HWD : Hid (T.word (K.bs s) = (T.isName (K.bs s) || T.isLit (K.bs s))) := hide rfl
      have HLEN := hide (K.bs_len s)
      have hbs := HB.out.size
      generalize T.isName (K.bs s) = nb at *
      generalize T.isLit (K.bs s) = lb at *
      have HJL := hide (T.join_len _ HW.out)
      have HWL : Hid ((wds (ss.take i)).length = i) := hide (by unfold wds; rw [List.length_map, List.length_take]; omega)
      have HWB : Hid (nb = true ∨ lb = true → s.size ≤ 20) := hide (fun h => by
        have := T.word_len (l := K.bs s) (by rw [HWD.out]; rcases h with h | h <;> rw [h] <;> simp)
        rw [HLEN.out] at this; omega)
      cases nb
      · cases lb
        · clear HJL HWB HWD
          go_wp2_with fail
          refine (P1.out _).mono ?_; rintro _ w' ⟨rfl, rfl⟩
          go_wp2_with fail
          refine (P2.out _).mono ?_; rintro _ w' ⟨rfl, rfl⟩
          go_wp2
          go_ret
          exact ⟨rfl, HB.out⟩
        · go_wp2_with fail
          refine (P1.out _).mono ?_; rintro _ w' ⟨rfl, rfl⟩
          go_wp2_with fail
          refine (P2.out _).mono ?_; rintro _ w' ⟨rfl, rfl⟩
          go_wp2_with (at_builtin; first
            | (refine apS_arm rfl (.tmp 34) (.tmp 38) _ _ rfl Try.underlying24 Try.underlying9 w.heap.size _ (T.join (wds (ss.take i))) rfl HO.out s rfl (by have := HJL.out; have := HWL.out; have := HWB.out (by simp); omega) hbs ?_; intro v3 w3 ho3 hg3)
            | (refine apB_arm rfl (.tmp 39) (.tmp 40) _ rfl Try.underlying24 w.heap.size _ (T.join (wds (ss.take i)) ++ K.bs s) rfl (ho3.alloc _) w3.heap.size 1 32 rfl (World.cell?_alloc_new _ _ _ 0) (by have := HJL.out; have := HWL.out; have := HWB.out (by simp); have := HLEN.out; rw [List.length_append]; omega) (by have := (below_grownB HB.out HO.out hg3 hbs).size; simp; omega) ?_; intro v4 w4 ho4 hg4))
          have hb3 := below_grownB HB.out HO.out hg3 hbs
          have HB4 := hide (below_grownB (hb3.alloc hb3.size (.cells #[.int .u8 32] 5)) (ho3.alloc (.cells #[.int .u8 32] 5)) hg4 (by have := hb3.size; simp; omega))
          have HO4 := hide ho4
          clear ho4 hg4 hg3 ho3 hb3
          go_roundw
          case rel =>
            refine ⟨i + 1, by omega, by go_num, by rw [HNX.out]; exact HO4.out, fun l hl => ?_, HB4.out⟩
            rw [HWX.out] at hl
            rcases List.mem_append.1 hl with h | h
            · exact HW.out l h
            · rw [List.mem_singleton] at h
              subst h
              rw [HWD.out]; rfl
          case measure => simp [intOf]; omega
      · go_wp2_with fail
        refine (P1.out _).mono ?_; rintro _ w' ⟨rfl, rfl⟩
        go_wp2_with (at_builtin; first
          | (refine apS_arm rfl (.tmp 34) (.tmp 38) _ _ rfl Try.underlying24 Try.underlying9 w.heap.size _ (T.join (wds (ss.take i))) rfl HO.out s rfl (by have := HJL.out; have := HWL.out; have := HWB.out (by simp); omega) hbs ?_; intro v3 w3 ho3 hg3)
          | (refine apB_arm rfl (.tmp 39) (.tmp 40) _ rfl Try.underlying24 w.heap.size _ (T.join (wds (ss.take i)) ++ K.bs s) rfl (ho3.alloc _) w3.heap.size 1 32 rfl (World.cell?_alloc_new _ _ _ 0) (by have := HJL.out; have := HWL.out; have := HWB.out (by simp); have := HLEN.out; rw [List.length_append]; omega) (by have := (below_grownB HB.out HO.out hg3 hbs).size; simp; omega) ?_; intro v4 w4 ho4 hg4))
        have hb3 := below_grownB HB.out HO.out hg3 hbs
        have HB4 := hide (below_grownB (hb3.alloc hb3.size (.cells #[.int .u8 32] 5)) (ho3.alloc (.cells #[.int .u8 32] 5)) hg4 (by have := hb3.size; simp; omega))
        have HO4 := hide ho4
        clear ho4 hg4 hg3 ho3 hb3
        go_roundw
        case rel =>
          refine ⟨i + 1, by omega, by go_num, by rw [HNX.out]; exact HO4.out, fun l hl => ?_, HB4.out⟩
          rw [HWX.out] at hl
          rcases List.mem_append.1 hl with h | h
          · exact HW.out l h
          · rw [List.mem_singleton] at h
            subst h
            rw [HWD.out]; rfl
        case measure => simp [intOf]; omega
    · obtain rfl : i = ss.length := by omega
      rw [List.take_length] at HO HW
      have HJ := hide (T.toks_join _ HW.out)
      have hjl := (T.join_len _ HW.out).2
      rw [show (wds ss).length = ss.length from List.length_map ..] at hjl
      have HJB : Hid (K.Bytes (T.join (wds ss))) := hide (T.join_bytes _ (fun l hl => by
        obtain ⟨s, _, rfl⟩ := List.mem_map.1 hl
        exact K.bs_bytes s))
      have HJN : Hid ((T.joined 0 (wds ss)).length = ss.length) := hide (by rw [T.joined_len]; exact List.length_map ..)
      have HTX : Hid (∀ i (h : i < (T.joined 0 (wds ss)).length), K.str (T.joined 0 (wds ss))[i].t = ss.getD i ByteArray.empty) := hide (fun i h => by
        have h1 : i < ss.length := by rw [HJN.out] at h; exact h
        rw [T.joined_at 0 (wds ss) i h (by unfold wds; rw [List.length_map]; exact h1)]
        unfold wds
        rw [List.getElem_map, K.bs_str]
        simp [List.getD, h1])
      generalize T.joined 0 (wds ss) = xs at *
      generalize T.join (wds ss) = L at *
      obtain ⟨A', c', rfl, hlc, _, hrd⟩ := HO.out.form
      have HT := hide (toks_any A' c' L wr hrd HJB.out hlc (by omega) (HM.out.up HB.out))
      rw [HJ.out] at HT
      have h40 : ¬ (L.length : Int) > 4000 := by omega
      clear hrd hlc hjl HJ HJB HO HW
      go_wp2_with fail
      refine HT.out.mono ?_; rintro _ w6 hans
      obtain ⟨v, rfl, ho6, hb6⟩ := hans
      have HB6 := hide (HB.out.trans (hb6.mono HB.out.size))
      have HO6 := hide ho6
      obtain ⟨A6, c6, rfl, hx6, _⟩ := ho6.form
      have hjn := HJN.out
      rw [hjn]
      have hx6' : ss.length ≤ c6 := by omega
      clear hjn hb6 ho6 HT hx6
      have HK6 : Hid (KeepW w w6 w6) := hide ⟨fun _ => rfl, HB6.out⟩
      go_wp2
      go_loopw [8] (fun vi wr => ∃ i : Nat, i ≤ ss.length ∧ vi = .int .i64 i ∧ KeepW w w6 wr) (fun vi _ => ss.length - (intOf vi).toNat)
      case atStart => exact ⟨0, by omega, rfl, HK6.out⟩
      case round =>
        obtain ⟨i, hi, rfl, hk⟩ := hrel
        have HKR := hide hk
        clear hk
        by_cases hlt : i < ss.length
        · obtain ⟨g, o, hA, hg, hcl⟩ := HR.out (by omega)
          have hcw := (HKR.out.2.cell (p := ⟨g, o + i, none⟩) hg).trans (hcl i hlt)
          obtain ⟨g6, c7, hv, _, _, _, _, hcell⟩ := HO6.out.addr (by rw [HJN.out]; omega)
          injection hv with hv1 hv2 hv3
          have hix : i < xs.length := by rw [HJN.out]; exact hlt
          have hxi : xs[i]? = some xs[i] := List.getElem?_eq_getElem hix
          have hct := (HKR.out.1 ⟨g6, i * 3 + 1, none⟩).trans (hcell i 1 _ hix (by omega) (by rw [hxi]; rfl))
          rw [HTX.out i hix] at hct
          clear hcl hcell hxi hg hix hv2 HTX
          subst hv1 hv3 hA
          generalize ss.getD i ByteArray.empty = s at *
          have q4 : (s.toList == s.toList) = true := by simp
          go_wp2
          go_quiet (fail)
          go_wp2
          go_roundw
          case rel => exact ⟨i + 1, by omega, by go_num, HKR.out.drewN nq⟩
          case measure => simp [intOf]; omega
        · obtain rfl : i = ss.length := by omega
          go_wp2
          go_ret
          exact ⟨rfl, HKR.out.2⟩

theorem lexApart_walk (A : Option Addr) (c : Nat) (ss : List ByteArray) (w : World) (hr : RdS w w.heap.size A ss) (hc : ss.length ≤ c) (hm : ML w) :
    Calls Try.prog 5 #[.slice A ss.length c] w fun e w' => e = .returned (.bool true) ∧ Below w.heap.size w w' := by
  by_cases h : ss.length ≤ 100
  · exact lexApart_few A c ss w hr hc hm h
  · exact lexApart_many A c ss.length w hm (by omega)
end Go.Proofs.Ythhendkimdddoaa
