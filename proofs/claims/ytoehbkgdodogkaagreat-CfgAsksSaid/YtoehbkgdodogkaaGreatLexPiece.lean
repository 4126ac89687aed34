/- Contracts of lex's pieces: comments, words behind a percent sign, literals, names, any piece; over this program. -/
import Derived.Test.YtoehbkgdodogkaaGreatLexSkip
namespace Go.Proofs.YtoehbkgdodogkaaGreat
set_option maxRecDepth 100000
open Go.RowKit

theorem lit2 (w : World) (a b : Int) : (convert 33 33 (.slice (some ⟨w.heap.size, 0, none⟩) 2 2)).run Tryz.prog (w.alloc (.cells #[.int .u8 a, .int .u8 b] 5)) = .ok (.slice (some ⟨w.heap.size, 0, none⟩) 2 2) (w.alloc (cellsM [a, b])) := lit_conv w [a, b] 2 2

/-- A prefix of two bytes that are built for the call. -/
theorem pre2_any (A : Option Addr) (c : Nat) (l : List Int) (w : World) (hr : RdB w w.heap.size A l) (hc : l.length ≤ c) (a b : Int) :
    Calls Tryz.prog 94 #[.slice A l.length c, .slice (some ⟨w.heap.size, 0, none⟩) 2 2] (w.alloc (cellsM [a, b])) fun e w' => e = .returned (.bool (T.pre l [a, b])) ∧ Below w.heap.size w w' := by
  obtain ⟨r1, r2⟩ := litM w [a, b]
  exact (pre_any A c _ l _ (hr.up r2) hc _ 2 _ [a, b] r1).mono fun _ _ h => ⟨h.1, h.2 ▸ r2⟩

theorem slice_tail (w : World) (A : Option Addr) (c n j : Nat) (h1 : 1 ≤ j) (h2 : j ≤ c) : (Instr.sliceAt 33 (.slice A n c) (some (.int .i64 1)) (some (.int .i64 j)) none).run Tryz.prog w = .ok (.slice (dropA A c 1) (j - 1) (c - 1)) w := by
  rw [run_sliceAt_slice _ _ _ _ _ _ (by kernel_rfl), run_slice_lh _ _ _ _ _ (by kernel_rfl) .i64 .i64 1 (j : Int) (by omega) (by omega) (by omega)]
  have hs : (sizeOf (Tryz.prog.elem 33)).run Tryz.prog w = .ok 1 w := by kernel_rfl
  rw [hs]
  simp [Result.andThen, sliced, dropA]

/-- What a piece's function answers. -/
def Ans (x : T.P3) (w : World) (e : Ending) (w' : World) : Prop := e = .returned (p3v x) ∧ Below w.heap.size w w'
theorem Ans.parts {x : T.P3} {w w' : World} {e : Ending} (h : Ans x w e w') : ∃ (k : Int) (n : Nat) (d : Int), x = (k, n, d) ∧ e = .returned (.tuple #[.int .i64 k, .int .i64 n, .int .i64 d]) ∧ Below w.heap.size w w' := by
  obtain ⟨k, n, d⟩ := x
  exact ⟨k, n, d, rfl, h.1, h.2⟩

set_option maxHeartbeats 1000000 in
theorem comment_any (A : Option Addr) (hA : A ≠ none) (c : Nat) (l : List Int) (w : World) (hr : RdB w w.heap.size A l) (hl : K.Bytes l) (hc : l.length ≤ c) (hn : l.length ≤ 5000) (hm : ML w) :
    Calls Tryz.prog 74 #[.slice A l.length c] w (Ans (T.comment l) w) := by
  have P1 := hide (pre2_any A c l w hr hc 47 42)
  have V1 := fun w => lit2 w 47 42
  have V2 := fun w => lit2 w 47 47
  by_cases h1 : T.pre l [47, 42] = true
  · have hv : T.comment l = T.skip l 2 [42, 47] := by unfold T.comment; rw [if_pos h1]
    have hp := T.pre_len _ _ h1
    have HS := hide (fun (w1 : World) (b1 : Below w.heap.size w w1) => (skip_any A hA c l 2 [42, 47] w1 (hr.up b1) hl (by simpa using hp) hc hn (bytes_lit _ (by decide)) (by simp) (hm.up b1)))
    rw [show K.str [42, 47] = ⟨#[42, 47]⟩ from rfl] at HS
    rw [hv]
    rw [h1] at P1
    clear h1 hv hp hr hl hm
    generalize T.skip l 2 [42, 47] = x at *
    obtain ⟨xk, xn, xe⟩ := x
    simp only [p3v] at HS
    go_enter Tryz.func74, Tryz.ntmps74
    go_wp2_with (simp only [V1])
    refine P1.out.mono ?_; rintro _ w1 ⟨rfl, hb⟩
    have HB := hide hb
    clear hb
    go_wp2_with fail
    refine (HS.out _ HB.out).mono ?_; rintro _ w2 ⟨rfl, hb⟩
    have HB2 := hide (HB.out.trans (hb.mono HB.out.size))
    clear hb
    go_wp2
    go_ret3
    exact ⟨rfl, HB2.out⟩
  · have P2 := hide (fun (w1 : World) (b1 : Below w.heap.size w w1) => pre2_any A c l w1 (hr.up b1) hc 47 47)
    have h1' : T.pre l [47, 42] = false := by simpa using h1
    rw [h1'] at P1
    by_cases h2 : T.pre l [47, 47] = true
    · have hv : T.comment l = (0, (T.line l).length, 0) := by unfold T.comment; rw [if_neg h1, if_pos h2]
      have HS := hide (fun (w1 : World) (b1 : Below w.heap.size w w1) => line_any A hA c l w1 (hr.up b1) hl hc hn (hm.up b1))
      rw [hv]
      rw [h2] at P2
      clear h1 h1' h2 hv hr hl hm
      generalize (T.line l).length = m at *
      go_enter Tryz.func74, Tryz.ntmps74
      go_wp2_with (simp only [V1])
      refine P1.out.mono ?_; rintro _ w1 ⟨rfl, hb⟩
      have HB := hide hb
      clear hb
      go_wp2_with fail
      refine (P2.out _ HB.out).mono ?_; rintro _ w2 ⟨rfl, hb⟩
      have HB2 := hide (HB.out.trans (hb.mono HB.out.size))
      clear hb
      go_wp2_with fail
      refine (HS.out _ HB2.out).mono ?_; rintro _ w3 ⟨rfl, hb⟩
      have HB3 := hide (HB2.out.trans (hb.mono HB2.out.size))
      clear hb
      go_wp2
      go_ret3
      exact ⟨rfl, HB3.out⟩
    · have hv : T.comment l = (0, 0, 3) := by unfold T.comment; rw [if_neg h1, if_neg h2]
      have h2' : T.pre l [47, 47] = false := by simpa using h2
      rw [hv]
      rw [h2'] at P2
      clear h1 h1' h2 h2' hv hr hl hm
      go_enter Tryz.func74, Tryz.ntmps74
      go_wp2_with (simp only [V1])
      refine P1.out.mono ?_; rintro _ w1 ⟨rfl, hb⟩
      have HB := hide hb
      clear hb
      go_wp2_with fail
      refine (P2.out _ HB.out).mono ?_; rintro _ w2 ⟨rfl, hb⟩
      have HB2 := hide (HB.out.trans (hb.mono HB.out.size))
      clear hb
      go_wp2
      go_ret3
      exact ⟨rfl, HB2.out⟩

set_option maxHeartbeats 1000000 in
theorem percent_any (A : Option Addr) (hA : A ≠ none) (c : Nat) (l : List Int) (w : World) (hr : RdB w w.heap.size A l) (hl : K.Bytes l) (hc : l.length ≤ c) (h0 : 0 < l.length) (hn : l.length ≤ 5000) (hm : ML w) :
    Calls Tryz.prog 78 #[.slice A l.length c] w (Ans (T.percent l) w) := by
  have P1 := hide (pre2_any A c l w hr hc 37 37)
  have V1 := fun w => lit2 w 37 37
  have V2 := fun w => lit2 w 37 123
  by_cases h1 : T.pre l [37, 37] = true
  · have hv : T.percent l = (9, 2, 0) := by unfold T.percent; rw [if_pos h1]
    rw [hv]
    rw [h1] at P1
    clear h1 hv hr hl hm
    go_enter Tryz.func78, Tryz.ntmps78
    go_wp2_with (simp only [V1])
    refine P1.out.mono ?_; rintro _ w1 ⟨rfl, hb⟩
    have HB := hide hb
    clear hb
    go_wp2
    go_ret3
    exact ⟨rfl, HB.out⟩
  · have P2 := hide (fun (w1 : World) (b1 : Below w.heap.size w w1) => pre2_any A c l w1 (hr.up b1) hc 37 123)
    have h1' : T.pre l [37, 37] = false := by simpa using h1
    rw [h1'] at P1
    by_cases h2 : T.pre l [37, 123] = true
    · have hv : T.percent l = T.skip l 2 [37, 125] := by unfold T.percent; rw [if_neg h1, if_pos h2]
      have hp := T.pre_len _ _ h2
      have HS := hide (fun (w1 : World) (b1 : Below w.heap.size w w1) => (skip_any A hA c l 2 [37, 125] w1 (hr.up b1) hl (by simpa using hp) hc hn (bytes_lit _ (by decide)) (by simp) (hm.up b1)))
      rw [show K.str [37, 125] = ⟨#[37, 125]⟩ from rfl] at HS
      rw [hv]
      rw [h2] at P2
      clear h1 h1' h2 hv hp hr hl hm
      generalize T.skip l 2 [37, 125] = x at *
      obtain ⟨xk, xn, xe⟩ := x
      simp only [p3v] at HS
      go_enter Tryz.func78, Tryz.ntmps78
      go_wp2_with (simp only [V1])
      refine P1.out.mono ?_; rintro _ w1 ⟨rfl, hb⟩
      have HB := hide hb
      clear hb
      go_wp2_with fail
      refine (P2.out _ HB.out).mono ?_; rintro _ w2 ⟨rfl, hb⟩
      have HB2 := hide (HB.out.trans (hb.mono HB.out.size))
      clear hb
      go_wp2_with fail
      refine (HS.out _ HB2.out).mono ?_; rintro _ w3 ⟨rfl, hb⟩
      have HB3 := hide (HB2.out.trans (hb.mono HB2.out.size))
      clear hb
      go_wp2
      go_ret3
      exact ⟨rfl, HB3.out⟩
    · have h2' : T.pre l [37, 123] = false := by simpa using h2
      have hv : T.percent l = if T.wkind ((l.take (T.psize l)).drop 1) = 0 then (0, 0, 3) else (T.wkind ((l.take (T.psize l)).drop 1), T.psize l, 0) := by unfold T.percent; rw [if_neg h1, if_neg h2]
      rw [hv]
      rw [h2'] at P2
      have HR := hide (fun (w1 : World) (b1 : Below w.heap.size w w1) => hr.up b1)
      have hpl := T.psize_le l h0
      have hp1 : 1 ≤ T.psize l := by unfold T.psize; omega
      clear h1 h1' h2 h2' hv
      have HK := hide (fun w => wordKind_any ((l.take (T.psize l)).drop 1) ((hl.take _).drop _) w)
      have HC := fun (w1 : World) (B : Nat) (hr1 : RdB w1 B A l) => str_conv (((hr1.take (T.psize l))).dropA (c := c) (by rw [List.length_take]; omega) 1) ((hl.take (T.psize l)).drop 1) (c - 1)
      rw [List.length_drop, List.length_take, show min (T.psize l) l.length = T.psize l by omega] at HC
      by_cases hK0 : T.wkind ((l.take (T.psize l)).drop 1) = 0
      · rw [if_pos hK0]
        have HB0 : Hid (T.wkind ((l.take (T.psize l)).drop 1) = 0) := hide hK0
        rw [hK0] at HK
        have HN := hide (fun k h => T.run_next T.small l k h)
        have HE := hide (fun k h => T.run_end T.small l k h)
        have HP : Hid (T.psize l = 1 + T.run T.small (l.drop 1)) := hide rfl
        have HM := hide (fun z w => small_any z w)
        have HCV := hide HC
        clear HC hK0 hr hl hm
        generalize hpp : T.psize l = p at *
        have HPP := hide hpp
        clear hpp
        generalize K.str ((l.take p).drop 1) = s at *
        generalize hkd : T.wkind ((l.take p).drop 1) = kd at *
        have HKD := hide hkd
        clear hkd
        generalize hD : dropA A c 1 = D at *
        have HD := hide hD
        clear hD
        go_enter Tryz.func78, Tryz.ntmps78
        go_wp2_with (simp only [V1])
        refine P1.out.mono ?_; rintro _ w1 ⟨rfl, hb⟩
        have HB := hide hb
        clear hb
        go_wp2_with fail
        refine (P2.out _ HB.out).mono ?_; rintro _ w2 ⟨rfl, hb⟩
        have HB2 := hide (HB.out.trans (hb.mono HB.out.size))
        clear hb V1 V2 P1 P2
        have hr2 := HR.out _ HB2.out
        have S2 := slice_tail w2 A c l.length p hp1 (by omega)
        have C2 := HCV.out w2 _ hr2
        rw [HD.out] at S2
        clear HCV HB HR
        go_wp2
        go_loop [5] (fun vi => ∃ (k : Nat), 1 ≤ k ∧ k ≤ l.length ∧ vi = .int .i64 k ∧ p = k + T.run T.small (l.drop k)) (fun vi => l.length - (intOf vi).toNat)
        case atStart => exact ⟨1, Nat.le_refl _, by omega, rfl, HP.out⟩
        case round =>
          obtain ⟨k, hk1, hk, rfl, hs⟩ := hrel
          have HS := hide hs
          clear hs
          by_cases hlt : k < l.length
          · obtain ⟨g, o, hA1, _, hcl⟩ := hr2 (by omega)
            have hcell := hcl k (by omega)
            have HNk := hide (HN.out k hlt)
            have HMk := hide (HM.out (l.getD k 0))
            clear hcl hr2
            generalize l.getD k 0 = z at *
            subst hA1
            rcases hz : T.small z with _ | _
            · rw [hz] at HMk
              have HZ := hide hz
              clear hz
              obtain rfl : k = p := by have e1 := HS.out; have e2 := HNk.out; rw [HZ.out] at e2; simp at e2; omega
              go_wp2_with fail
              refine (HMk.out _).mono ?_; rintro _ w3 ⟨rfl, rfl⟩
              go_wp2_with fail
              refine (HK.out _).mono ?_; rintro _ w4 ⟨rfl, rfl⟩
              go_wp2
              go_ret3
              exact ⟨rfl, HB2.out⟩
            · rw [hz] at HMk
              have HZ := hide hz
              clear hz
              go_wp2_with fail
              refine (HMk.out _).mono ?_; rintro _ w3 ⟨rfl, rfl⟩
              go_wp2
              go_round
              case rel =>
                refine ⟨k + 1, by omega, by omega, by go_num, ?_⟩
                have e1 := HS.out; have e2 := HNk.out; rw [HZ.out] at e2; simp at e2; omega
              case measure => simp [intOf]; omega
          · obtain rfl : k = p := by have e1 := HS.out; have e2 := HE.out k (by omega); omega
            clear hr2
            go_wp2_with fail
            refine (HK.out _).mono ?_; rintro _ w4 ⟨rfl, rfl⟩
            go_wp2
            go_ret3
            exact ⟨rfl, HB2.out⟩
      · rw [if_neg hK0]
        have hK1 : (T.wkind ((l.take (T.psize l)).drop 1) != 0) = true := by simpa using hK0
        rw [hK1] at HK
        clear hK1
        have HN := hide (fun k h => T.run_next T.small l k h)
        have HE := hide (fun k h => T.run_end T.small l k h)
        have HP : Hid (T.psize l = 1 + T.run T.small (l.drop 1)) := hide rfl
        have HM := hide (fun z w => small_any z w)
        have HCV := hide HC
        clear HC hK0 hr hl hm
        generalize hpp : T.psize l = p at *
        have HPP := hide hpp
        clear hpp
        generalize K.str ((l.take p).drop 1) = s at *
        generalize hkd : T.wkind ((l.take p).drop 1) = kd at *
        have HKD := hide hkd
        clear hkd
        generalize hD : dropA A c 1 = D at *
        have HD := hide hD
        clear hD
        go_enter Tryz.func78, Tryz.ntmps78
        go_wp2_with (simp only [V1])
        refine P1.out.mono ?_; rintro _ w1 ⟨rfl, hb⟩
        have HB := hide hb
        clear hb
        go_wp2_with fail
        refine (P2.out _ HB.out).mono ?_; rintro _ w2 ⟨rfl, hb⟩
        have HB2 := hide (HB.out.trans (hb.mono HB.out.size))
        clear hb V1 V2 P1 P2
        have hr2 := HR.out _ HB2.out
        have S2 := slice_tail w2 A c l.length p hp1 (by omega)
        have C2 := HCV.out w2 _ hr2
        rw [HD.out] at S2
        clear HCV HB HR
        go_wp2
        go_loop [5] (fun vi => ∃ (k : Nat), 1 ≤ k ∧ k ≤ l.length ∧ vi = .int .i64 k ∧ p = k + T.run T.small (l.drop k)) (fun vi => l.length - (intOf vi).toNat)
        case atStart => exact ⟨1, Nat.le_refl _, by omega, rfl, HP.out⟩
        case round =>
          obtain ⟨k, hk1, hk, rfl, hs⟩ := hrel
          have HS := hide hs
          clear hs
          by_cases hlt : k < l.length
          · obtain ⟨g, o, hA1, _, hcl⟩ := hr2 (by omega)
            have hcell := hcl k (by omega)
            have HNk := hide (HN.out k hlt)
            have HMk := hide (HM.out (l.getD k 0))
            clear hcl hr2
            generalize l.getD k 0 = z at *
            subst hA1
            rcases hz : T.small z with _ | _
            · rw [hz] at HMk
              have HZ := hide hz
              clear hz
              obtain rfl : k = p := by have e1 := HS.out; have e2 := HNk.out; rw [HZ.out] at e2; simp at e2; omega
              go_wp2_with fail
              refine (HMk.out _).mono ?_; rintro _ w3 ⟨rfl, rfl⟩
              go_wp2_with fail
              refine (HK.out _).mono ?_; rintro _ w4 ⟨rfl, rfl⟩
              go_wp2
              go_ret3
              exact ⟨rfl, HB2.out⟩
            · rw [hz] at HMk
              have HZ := hide hz
              clear hz
              go_wp2_with fail
              refine (HMk.out _).mono ?_; rintro _ w3 ⟨rfl, rfl⟩
              go_wp2
              go_round
              case rel =>
                refine ⟨k + 1, by omega, by omega, by go_num, ?_⟩
                have e1 := HS.out; have e2 := HNk.out; rw [HZ.out] at e2; simp at e2; omega
              case measure => simp [intOf]; omega
          · obtain rfl : k = p := by have e1 := HS.out; have e2 := HE.out k (by omega); omega
            clear hr2
            go_wp2_with fail
            refine (HK.out _).mono ?_; rintro _ w4 ⟨rfl, rfl⟩
            go_wp2
            go_ret3
            exact ⟨rfl, HB2.out⟩
end Go.Proofs.YtoehbkgdodogkaaGreat
