/- Contracts of lex's loops that go on at one place: a quoted text's size, an action, over this program. -/
import Derived.Test.YtoehbkgdodogkaaGreatLexFn
import Derived.ScopeJumps
import Derived.WalkMore
namespace Go.Proofs.YtoehbkgdodogkaaGreat
set_option maxRecDepth 100000
open Go.RowKit

/-- A scope with one label: what holds at every jump holds when the label is reached first, and each pass lowers a measure. -/
theorem wp_scope_label {P : Program} {a : Act} {w : World} {Q : Exit → Act → World → Prop} {c rest : Code} (l : Nat) (J : Act → World → Prop) (μ : Act → World → Nat) (hf : findLabel c l = some (Code.skip.seq rest))
    (pass : ∀ a w, J a w → rest.wp P (Exit.jump l (fun a' w' => J a' w' ∧ μ a' w' < μ a w) Q) a w)
    (first : (∀ a w, J a w → rest.wp P (Exit.jump l J Q) a w) → c.wp P (Exit.jump l J Q) a w) : (Code.scope c).wp P Q a w := by
  refine wp_scope_jumps l J μ hf (first fun a w h => ?_) fun a w h => wp_seq (wp_skip (pass a w h))
  refine Code.wp_mono (fun e a' w' hq => ?_) (pass a w h)
  cases e
  case goto l' => exact ⟨hq.1, hq.2.1⟩
  all_goals exact hq

/-- The bytes from one on. -/
def dropA (A : Option Addr) (c k : Nat) : Option Addr := if c = k then A else A.map fun x => x.add k
theorem dropA_some {A : Option Addr} (h : A ≠ none) (c k : Nat) : dropA A c k ≠ none := by
  unfold dropA
  split
  · exact h
  · cases A with
    | none => exact absurd rfl h
    | some x => simp
theorem RdB.dropA {w : World} {B c : Nat} {A : Option Addr} {l : List Int} (h : RdB w B A l) (hc : l.length ≤ c) (k : Nat) : RdB w B (dropA A c k) (l.drop k) := by
  intro hn
  rw [List.length_drop] at hn
  obtain ⟨g, o, rfl, hg, hcl⟩ := h (by omega)
  refine ⟨g, o + k, ?_, hg, fun j hj => ?_⟩
  · have e : ((⟨g, o, none⟩ : Addr).add k) = ⟨g, o + k, none⟩ := by unfold Addr.add; by_cases h0 : k = 0 <;> simp [h0]
    unfold Go.Proofs.YtoehbkgdodogkaaGreat.dropA
    rw [if_neg (by omega), Option.map_some, e]
  · rw [List.length_drop] at hj
    rw [show o + k + j = o + (k + j) by omega, hcl (k + j) (by omega), L.gd_lt (by omega : k + j < l.length), L.gd_lt (by rw [List.length_drop]; exact hj), List.getElem_drop]
theorem slice_from (w : World) (A : Option Addr) (c n k : Nat) (hk : k ≤ n) : (Instr.sliceAt 33 (.slice A n c) (some (.int .i64 k)) none none).run Tryz.prog w = .ok (.slice (dropA A c k) (n - k) (c - k)) w := by
  rw [run_sliceAt_slice _ _ _ _ _ _ (by kernel_rfl), run_slice_l _ _ _ _ _ (by kernel_rfl) .i64 (k : Int) (by omega) (by omega)]
  have hs : (sizeOf (Tryz.prog.elem 33)).run Tryz.prog w = .ok 1 w := by kernel_rfl
  rw [hs]
  simp [Result.andThen, sliced, dropA]

def quoV (r : Option Nat) : Value := match r with | none => .tuple #[.int .i64 0, .int .i64 4] | some m => .tuple #[.int .i64 ((m + 1 : Nat) : Int), .int .i64 0]

set_option maxHeartbeats 1000000 in
theorem quo_any (A : Option Addr) (c B : Nat) (l : List Int) (w : World) (hr : RdB w B A l) (h0 : 0 < l.length) (hn : l.length ≤ 5000) :
    Calls Tryz.prog 97 #[.slice A l.length c] w fun e w' => e = .returned (quoV (T.quoted (l.getD 0 0) (l.drop 1))) ∧ w = w' := by
  generalize hR : T.quoted (l.getD 0 0) (l.drop 1) = R
  have HR := hide hR
  clear hR
  go_enter Tryz.func97, Tryz.ntmps97
  go_wp2
  refine wp_scope_label 0 (fun a' w' => w' = w ∧ ∃ k : Nat, 1 ≤ k ∧ k ≤ l.length + 1 ∧ R = (T.quoted (l.getD 0 0) (l.drop k)).map (· + (k - 1)) ∧ ∃ (u1 u5 u6 u7 u8 u9 u10 u11 u12 u13 u14 u15 u16 u17 u18 u19 u20 u21 u22 u23 u24 u25 : Value), a' = { tmps := #[.slice A l.length c, u1, .int .i64 0, .int .i64 0, .int .i64 k, u5, u6, u7, u8, u9, u10, u11, u12, u13, u14, u15, u16, u17, u18, u19, u20, u21, u22, u23, u24, u25], defers := [] }) (fun a' _ => l.length + 2 - (intOf (a'.tmps.getD 4 undef)).toNat) rfl ?_ ?_
  · rintro a' w' ⟨rfl, k, hk, hk2, hs, u1, u5, u6, u7, u8, u9, u10, u11, u12, u13, u14, u15, u16, u17, u18, u19, u20, u21, u22, u23, u24, u25, rfl⟩
    have HS := hide hs
    clear hs
    by_cases hlt : k < l.length
    · obtain ⟨g, o, rfl, _, hcl⟩ := hr (by omega)
      have hcell := hcl k (by omega)
      have hcell0 : w'.cell? ⟨g, o, none⟩ = some (.int .u8 (l.getD 0 0)) := hcl 0 (by omega)
      have HD := hide (L.cons_drop l k hlt)
      have HN : Hid (T.quoted (l.getD 0 0) (l.drop k) = if l.getD k 0 = l.getD 0 0 then some 1 else if l.getD k 0 = 92 then (T.quoted (l.getD 0 0) (l.drop (k + 2))).map (· + 2) else (T.quoted (l.getD 0 0) (l.drop (k + 1))).map (· + 1)) := hide (by
        rw [L.cons_drop l k hlt]
        by_cases h : k + 1 < l.length
        · rw [L.cons_drop l (k + 1) h]; rfl
        · rw [List.drop_eq_nil_of_le (show l.length ≤ k + 1 by omega), List.drop_eq_nil_of_le (show l.length ≤ k + 2 by omega)]; rfl)
      clear hcl hr
      generalize l.getD k 0 = z at *
      generalize l.getD 0 0 = q at *
      rcases hzq : (z == q) with _ | _
      · have HQ : Hid (¬ z = q) := hide (by simpa using hzq)
        rcases hz : (z == 92) with _ | _
        · have HZ : Hid (¬ z = 92) := hide (by simpa using hz)
          go_wp2
          go_step3
          refine ⟨rfl, ⟨rfl, k + 1, by omega, by omega, ?_, _, _, _, _, _, _, _, _, _, _, _, _, _, _, _, _, _, _, _, _, _, _, rfl⟩, ?_⟩
          · rw [HS.out, HN.out, if_neg HQ.out, if_neg HZ.out, Option.map_map]
            congr 1; funext x; simp; omega
          · simp [intOf]; omega
        · have HZ : Hid (z = 92) := hide (by simpa using hz)
          go_wp2
          go_step3
          by_cases hk3 : k + 2 ≤ l.length + 1
          · refine ⟨rfl, ⟨rfl, k + 2, by omega, by omega, ?_, _, _, _, _, _, _, _, _, _, _, _, _, _, _, _, _, _, _, _, _, _, _, rfl⟩, ?_⟩
            · rw [HS.out, HN.out, if_neg HQ.out, if_pos HZ.out, Option.map_map]
              congr 1; funext x; simp; omega
            · simp [intOf]; omega
          · omega
      · have HQ : Hid (z = q) := hide (by simpa using hzq)
        go_wp2
        simp only [Exit.jump]
        go_ret2
        refine ⟨?_, rfl⟩
        have e := HS.out
        rw [HN.out, if_pos HQ.out] at e
        rw [e, show (some 1).map (· + (k - 1)) = some k from by simp; omega]
        rfl
    · have HX : Hid (l.drop k = []) := hide (List.drop_eq_nil_of_le (by omega))
      clear hr
      go_wp2
      simp only [Exit.jump]
      go_ret2
      refine ⟨?_, rfl⟩
      have := HS.out
      rw [HX.out] at this
      simp [T.quoted] at this
      rw [this]; rfl
  · intro hp
    go_wp2
    go_step3
    rename_i hK
    refine hK _ _ (hp _ _ ⟨rfl, 1, Nat.le_refl _, by omega, ?_, _, _, _, _, _, _, _, _, _, _, _, _, _, _, _, _, _, _, _, _, _, _, rfl⟩)
    rw [HR.out]
    simp

/-- A piece, as a value. -/
def p3v (x : T.P3) : Value := .tuple #[.int .i64 x.1, .int .i64 (x.2.1 : Nat), .int .i64 x.2.2]
def actV (r : Option Nat) : Value := match r with | none => .tuple #[.int .i64 0, .int .i64 0, .int .i64 4] | some n => .tuple #[.int .i64 0, .int .i64 (n : Int), .int .i64 0]
theorem actV_eq (l : List Int) : actV (T.act (l.length + 1) l 0) = p3v (T.action l) := by
  unfold T.action
  cases T.act (l.length + 1) l 0 <;> rfl

set_option maxHeartbeats 2000000 in
theorem act_any (A : Option Addr) (c B : Nat) (l : List Int) (w : World) (hr : RdB w B A l) (hc : l.length ≤ c) (hn : l.length ≤ 5000) :
    Calls Tryz.prog 77 #[.slice A l.length c] w fun e w' => e = .returned (p3v (T.action l)) ∧ w = w' := by
  rw [← actV_eq]
  generalize hR : T.act (l.length + 1) l 0 = R
  have HR := hide hR
  clear hR
  go_enter Tryz.func77, Tryz.ntmps77
  go_wp2
  refine wp_scope_label 0 (fun a' w' => w' = w ∧ ∃ (k f : Nat) (o : Int), k ≤ l.length ∧ l.length < k + f ∧ 0 ≤ o ∧ o ≤ k ∧ R = (T.act f (l.drop k) o).map (· + k) ∧ ∃ (u1 u7 u8 u9 u10 u11 u12 u13 u14 u15 u16 u17 u18 u19 u20 u21 u22 u23 u24 u25 u26 u27 u28 u29 u30 u31 u32 u33 u34 u35 u36 u37 u38 u39 u40 u41 u42 u43 u44 u45 : Value), a' = { tmps := #[.slice A l.length c, u1, .int .i64 0, .int .i64 0, .int .i64 0, .int .i64 k, .int .i64 o, u7, u8, u9, u10, u11, u12, u13, u14, u15, u16, u17, u18, u19, u20, u21, u22, u23, u24, u25, u26, u27, u28, u29, u30, u31, u32, u33, u34, u35, u36, u37, u38, u39, u40, u41, u42, u43, u44, u45], defers := [] }) (fun a' _ => l.length + 2 - (intOf (a'.tmps.getD 5 undef)).toNat) rfl ?_ ?_
  · rintro a' w' ⟨rfl, k, f, o, hk, hf, ho, ho2, hs, u1, u7, u8, u9, u10, u11, u12, u13, u14, u15, u16, u17, u18, u19, u20, u21, u22, u23, u24, u25, u26, u27, u28, u29, u30, u31, u32, u33, u34, u35, u36, u37, u38, u39, u40, u41, u42, u43, u44, u45, rfl⟩
    have HS := hide hs
    clear hs
    by_cases hlt : k < l.length
    · obtain ⟨f, rfl⟩ : ∃ f', f = f' + 1 := ⟨f - 1, by omega⟩
      have HN : Hid (T.act (f + 1) (l.drop k) o = if l.getD k 0 = 39 ∨ l.getD k 0 = 34 then (match T.quoted (l.getD k 0) (l.drop (k + 1)) with | none => none | some n => (T.act f ((l.drop (k + 1)).drop n) o).map (· + (n + 1))) else if 0 < T.ostep (l.getD k 0) o then (T.act f (l.drop (k + 1)) (T.ostep (l.getD k 0) o)).map (· + 1) else some 1) := hide (by
        rw [L.cons_drop l k hlt]; rfl)
      have HQ := hide (fun w'' (hr' : RdB w'' B A l) => quo_any (dropA A c k) (c - k) B (l.drop k) w'' (hr'.dropA hc k) (by rw [List.length_drop]; omega) (by rw [List.length_drop]; omega))
      rw [List.length_drop, List.drop_drop, show (l.drop k).getD 0 0 = l.getD k 0 from by simp [List.getD]] at HQ
      have HQ' := hide (HQ.out _ hr)
      have HL := hide (T.quoted_le (l.getD k 0) (l.drop (k + 1)))
      have S1 := fun w => slice_from w A c l.length k hk
      obtain ⟨g, o', hA, _, hcl⟩ := hr (by omega)
      have hcell := hcl k (by omega)
      have HA := hide hA
      have hA' : A = some ⟨g, o', none⟩ := hA
      clear hcl hr HQ hA
      generalize dropA A c k = D at *
      subst hA'
      generalize l.getD k 0 = z at *
      by_cases h1 : z = 123
      · subst h1
        clear HQ' HL S1
        go_wp2
        go_step3
        refine ⟨rfl, ⟨rfl, k + 1, f, o + 1, by omega, by omega, by omega, by omega, ?_, _, _, _, _, _, _, _, _, _, _, _, _, _, _, _, _, _, _, _, _, _, _, _, _, _, _, _, _, _, _, _, _, _, _, _, _, _, _, _, _, rfl⟩, ?_⟩
        · have e := HN.out
          rw [if_neg (by decide), show T.ostep 123 o = o + 1 from by simp [T.ostep], if_pos (by omega)] at e
          rw [HS.out, e, Option.map_map]
          congr 1; funext x; simp; omega
        · simp [intOf]; omega
      have hq1 : (z == 123) = false := by simpa using h1
      by_cases h2 : z = 125
      · subst h2
        clear HQ' HL S1
        by_cases ho3 : 0 < o - 1
        · go_wp2
          go_step3
          refine ⟨rfl, ⟨rfl, k + 1, f, o - 1, by omega, by omega, by omega, by omega, ?_, _, _, _, _, _, _, _, _, _, _, _, _, _, _, _, _, _, _, _, _, _, _, _, _, _, _, _, _, _, _, _, _, _, _, _, _, _, _, _, _, rfl⟩, ?_⟩
          · have e := HN.out
            rw [if_neg (by decide), show T.ostep 125 o = o - 1 from by simp [T.ostep], if_pos ho3] at e
            rw [HS.out, e, Option.map_map]
            congr 1; funext x; simp; omega
          · simp [intOf]; omega
        · go_wp2
          simp only [Exit.jump]
          go_ret3
          refine ⟨?_, rfl⟩
          have e := HN.out
          rw [if_neg (by decide), show T.ostep 125 o = o - 1 from by simp [T.ostep], if_neg (by omega)] at e
          rw [HS.out, e]
          simp [actV]; omega
      have hq2 : (z == 125) = false := by simpa using h2
      rcases hq39 : (z == 39) with _ | _
      · rcases hq34 : (z == 34) with _ | _
        · have HZ : Hid (¬ (z = 39 ∨ z = 34)) := hide (by simp at hq39 hq34; omega)
          have H1 := hide h1
          have H2 := hide h2
          clear HQ' HL S1 h1 h2
          by_cases ho3 : 0 < o
          · go_wp2
            go_step3
            refine ⟨rfl, ⟨rfl, k + 1, f, o, by omega, by omega, by omega, by omega, ?_, _, _, _, _, _, _, _, _, _, _, _, _, _, _, _, _, _, _, _, _, _, _, _, _, _, _, _, _, _, _, _, _, _, _, _, _, _, _, _, _, rfl⟩, ?_⟩
            · have e := HN.out
              rw [if_neg HZ.out, show T.ostep z o = o from by simp [T.ostep, H1.out, H2.out], if_pos ho3] at e
              rw [HS.out, e, Option.map_map]
              congr 1; funext x; simp; omega
            · simp [intOf]; omega
          · go_wp2
            simp only [Exit.jump]
            go_ret3
            refine ⟨?_, rfl⟩
            have e := HN.out
            rw [if_neg HZ.out, show T.ostep z o = o from by simp [T.ostep, H1.out, H2.out], if_neg (by omega)] at e
            rw [HS.out, e]
            simp [actV]; omega
        · clear h1 h2
          obtain rfl : z = 34 := by simpa using hq34
          rcases hm : T.quoted 34 (l.drop (k + 1)) with _ | m
          · have HM := hide hm
            rw [hm] at HQ'
            clear hm HL
            go_wp2_with (simp only [S1])
            refine HQ'.out.mono ?_; rintro _ w' ⟨rfl, rfl⟩
            simp only [quoV]
            go_wp2
            simp only [Exit.jump]
            go_ret3
            refine ⟨?_, rfl⟩
            have e := HS.out
            rw [HN.out, if_pos (by decide)] at e
            rw [HM.out] at e
            rw [e]; rfl
          · have HM := hide hm
            have hml := HL.out m hm
            rw [List.length_drop] at hml
            rw [hm] at HQ'
            clear hm HL
            obtain ⟨hm1, hm2⟩ := hml
            go_wp2_with (simp only [S1])
            refine HQ'.out.mono ?_; rintro _ w' ⟨rfl, rfl⟩
            simp only [quoV]
            go_wp2
            go_step3
            refine ⟨rfl, ⟨rfl, k + (m + 1), f, o, by omega, by omega, by omega, by omega, ?_, _, _, _, _, _, _, _, _, _, _, _, _, _, _, _, _, _, _, _, _, _, _, _, _, _, _, _, _, _, _, _, _, _, _, _, _, _, _, _, _, rfl⟩, ?_⟩
            · rw [HS.out, HN.out, if_pos (by decide), HM.out]
              simp only [List.drop_drop, Option.map_map]
              rw [show k + 1 + m = k + (m + 1) by omega]
              congr 1; funext x; simp; omega
            · simp [intOf]; omega
      · clear h1 h2
        obtain rfl : z = 39 := by simpa using hq39
        rcases hm : T.quoted 39 (l.drop (k + 1)) with _ | m
        · have HM := hide hm
          rw [hm] at HQ'
          clear hm HL
          go_wp2_with (simp only [S1])
          refine HQ'.out.mono ?_; rintro _ w' ⟨rfl, rfl⟩
          simp only [quoV]
          go_wp2
          simp only [Exit.jump]
          go_ret3
          refine ⟨?_, rfl⟩
          have e := HS.out
          rw [HN.out, if_pos (by decide)] at e
          rw [HM.out] at e
          rw [e]; rfl
        · have HM := hide hm
          have hml := HL.out m hm
          rw [List.length_drop] at hml
          rw [hm] at HQ'
          clear hm HL
          obtain ⟨hm1, hm2⟩ := hml
          go_wp2_with (simp only [S1])
          refine HQ'.out.mono ?_; rintro _ w' ⟨rfl, rfl⟩
          simp only [quoV]
          go_wp2
          go_step3
          refine ⟨rfl, ⟨rfl, k + (m + 1), f, o, by omega, by omega, by omega, by omega, ?_, _, _, _, _, _, _, _, _, _, _, _, _, _, _, _, _, _, _, _, _, _, _, _, _, _, _, _, _, _, _, _, _, _, _, _, _, _, _, _, _, rfl⟩, ?_⟩
          · rw [HS.out, HN.out, if_pos (by decide), HM.out]
            simp only [List.drop_drop, Option.map_map]
            rw [show k + 1 + m = k + (m + 1) by omega]
            congr 1; funext x; simp; omega
          · simp [intOf]; omega
    · have HX : Hid (l.drop k = []) := hide (List.drop_eq_nil_of_le (by omega))
      obtain rfl : k = l.length := by omega
      clear hr
      go_wp2
      simp only [Exit.jump]
      go_ret3
      refine ⟨?_, rfl⟩
      have := HS.out
      rw [HX.out] at this
      have e : ∀ f, T.act f [] o = none := fun f => by cases f <;> rfl
      rw [e] at this
      rw [this]; rfl
  · intro hp
    go_wp2
    go_step3
    rename_i hK
    refine hK _ _ (hp _ _ ⟨rfl, 0, l.length + 1, 0, by omega, by omega, by omega, by omega, ?_, _, _, _, _, _, _, _, _, _, _, _, _, _, _, _, _, _, _, _, _, _, _, _, _, _, _, _, _, _, _, _, _, _, _, _, _, _, _, _, _, rfl⟩)
    rw [← HR.out]
    simp
end Go.Proofs.YtoehbkgdodogkaaGreat
