/- The contract of the document's own skip of tokens, over this program. -/
import Derived.Test.YtgmcpkecppfkgaaRef7
namespace Go.Proofs.Ytgmcpkecppfkgaa
set_option maxRecDepth 100000
open Go.RowKit

namespace T
theorem pre_two (l : List Int) (a b : Int) (hl : K.Bytes l) (hab : K.Bytes [a, b]) (h : pre l [a, b] = true) : l.getD 0 0 = a ∧ l.getD 1 0 = b := by
  have hlen := pre_len l _ h
  rw [pre_take l [a, b], beq_iff_eq, str_list, str_list] at h
  have h2 := K.bytes_inj (hl.take 2) hab h
  match l, hlen with
  | x :: y :: r, _ =>
    simp at h2
    exact ⟨h2.1, h2.2⟩
theorem piece_blank (l : List Int) (h : l.getD 0 0 = 32 ∨ l.getD 0 0 = 9 ∨ l.getD 0 0 = 10 ∨ l.getD 0 0 = 13) : piece l = (0, 1, 0) := by
  unfold piece
  simp only
  rw [if_pos h]
theorem piece_47 (l : List Int) (h : l.getD 0 0 = 47) : piece l = comment l := by
  unfold piece
  simp only [h]
  rfl
theorem piece_60 (l : List Int) (h : l.getD 0 0 = 60) : piece l = skip (line l) 1 [62] := by
  unfold piece
  simp only [h]
  rfl
theorem piece_123 (l : List Int) (h : l.getD 0 0 = 123) : piece l = action l := by
  unfold piece
  simp only [h]
  rfl
theorem piece_37 (l : List Int) (h : l.getD 0 0 = 37) : piece l = percent l := by
  unfold piece
  simp only [h]
  rfl
theorem piece_else (l : List Int) (hb : ¬ (l.getD 0 0 = 32 ∨ l.getD 0 0 = 9 ∨ l.getD 0 0 = 10 ∨ l.getD 0 0 = 13)) (h1 : pre l [47, 42] = false) (h2 : pre l [47, 47] = false) (h3 : pre l [37, 123] = false) (h4 : ¬ l.getD 0 0 = 60) (h5 : ¬ l.getD 0 0 = 123) (he : (piece l).2.2 = 0) : (piece l).1 ≠ 0 := by
  revert he
  unfold piece
  simp only
  rw [if_neg hb, if_neg h4, if_neg h5]
  split
  · unfold comment
    rw [h1, h2]
    simp
  split
  · unfold percent
    rw [h3]
    have hw := wkind_bd (List.drop 1 (List.take (psize l) l))
    split
    · simp
    split
    · rename_i h; simp at h
    split
    · simp
    · rename_i hh; intro _; exact hh
  split
  · unfold literal
    split
    · simp
    split
    · simp
    split <;> simp
  split
  · simp
  split
  · simp
  split
  · simp
  · unfold name
    split
    · simp
    split <;> simp
end T

/-- What skip answers of a piece that is told. -/
def skipV (k : Nat) (x : T.P3) : Value := .tuple #[.int .i64 (if x.1 = 0 then ((k + x.2.1 : Nat) : Int) else k), .bool (x.1 == 0)]
theorem slice_to8 (w : World) (A : Option Addr) (c n k : Nat) (hk : k ≤ c) : (Instr.sliceAt 22 (.slice A n c) none (some (.int .i64 k)) none).run Try.prog w = .ok (.slice A k c) w := slice_to w A c n k hk
theorem skipV_yes {k : Nat} {x : T.P3} {P : Int} (h : x.1 = 0) (hp : P = ((k + x.2.1 : Nat) : Int)) : skipV k x = .tuple #[.int .i64 P, .bool true] := by
  unfold skipV; rw [if_pos h, h, hp]; rfl
theorem skipV_no {k : Nat} {x : T.P3} (h : x.1 ≠ 0) : skipV k x = .tuple #[.int .i64 k, .bool false] := by
  unfold skipV; rw [if_neg h, show (x.1 == 0) = false by simpa using h]
theorem past_skip (k : Nat) (m : List Int) (f : Nat) (s : List Int) (P : Int) (hP : T.pastV m s (k + f) = P) (l : List Int) (hl : m.drop (k + f) = l.drop f) (he : (T.skip l f s).2.2 = 0) : P = ((k + (T.skip l f s).2.1 : Nat) : Int) ∧ (T.skip l f s).1 = 0 := by
  unfold T.pastV at hP
  rw [hl] at hP
  unfold T.skip at he ⊢
  by_cases h : T.ix (l.drop f) s < 0
  · rw [if_pos h] at he; simp at he
  · rw [if_neg h] at he ⊢
    rw [if_neg h] at hP
    refine ⟨?_, rfl⟩
    simp only
    omega

set_option maxHeartbeats 4000000 in
theorem rskip_any (A : Option Addr) (c B : Nat) (L : List Int) (k : Nat) (w : World) (hr : RdB w B A L) (hl : K.Bytes L) (hc : L.length ≤ c) (hn : L.length ≤ 5000) (hk : k < L.length) (he : (T.piece (L.drop k)).2.2 = 0) :
    Calls Try.prog 12 #[.slice A L.length c, .int .i64 k] w fun e w' => e = .returned (skipV k (T.piece (L.drop k))) ∧ w = w' := by
  obtain ⟨g, o, rfl, _, hcl⟩ := hr (by omega)
  have hcell := hcl k hk
  have hz : (L.drop k).getD 0 0 = L.getD k 0 := by rw [Go.Proofs.Ytgmcpkecppfkgaa.L.cons_drop L k hk]; rfl
  have H1 := hide (rhas_any _ c B L [47, 42] k w hr hl hc hn (by omega) (by decide))
  have H2 := hide (rhas_any _ c B L [47, 47] k w hr hl hc hn (by omega) (by decide))
  have H3 := hide (rhas_any _ c B L [37, 123] k w hr hl hc hn (by omega) (by decide))
  rw [show K.str [47, 42] = ⟨#[47, 42]⟩ from rfl] at H1
  rw [show K.str [47, 47] = ⟨#[47, 47]⟩ from rfl] at H2
  rw [show K.str [37, 123] = ⟨#[37, 123]⟩ from rfl] at H3
  have HPB := hide (T.piece_blank (L.drop k))
  have HEL := hide (T.piece_else (L.drop k))
  rw [hz] at HPB HEL
  have HR := hide hr
  have HL := hide hl
  have HE := hide he
  have HZ := hide hz
  have hlb := hl.drop k
  clear hcl hr hl he hz
  by_cases hb : L.getD k 0 = 32 ∨ L.getD k 0 = 9 ∨ L.getD k 0 = 10 ∨ L.getD k 0 = 13
  · have hp := HPB.out hb
    rw [hp]
    unfold skipV
    clear H1 H2 H3 HPB HEL hp HE hlb
    generalize L.getD k 0 = z at *
    rcases hb with rfl | rfl | rfl | rfl
    all_goals
      go_enter Try.func12, Try.ntmps12
      go_wp2
      go_ret2
      exact ⟨rfl, rfl⟩
  · have n1 : (L.getD k 0 == 32) = false := by simpa using fun e => hb (.inl e)
    have n2 : (L.getD k 0 == 9) = false := by simpa using fun e => hb (.inr (.inl e))
    have n3 : (L.getD k 0 == 10) = false := by simpa using fun e => hb (.inr (.inr (.inl e)))
    have n4 : (L.getD k 0 == 13) = false := by simpa using fun e => hb (.inr (.inr (.inr e)))
    rcases hp1 : T.pre (L.drop k) [47, 42] with _ | _
    · rw [hp1] at H1
      rcases hp2 : T.pre (L.drop k) [47, 47] with _ | _
      · rw [hp2] at H2
        rcases hp3 : T.pre (L.drop k) [37, 123] with _ | _
        · rw [hp3] at H3
          by_cases h60 : L.getD k 0 = 60
          · have hz1 : (L.drop k).getD 0 0 = 60 := HZ.out.trans h60
            have hpc : T.piece (L.drop k) = T.skip (T.line (L.drop k)) 1 [62] := T.piece_60 _ hz1
            have hll := T.line_le (L.drop k)
            rw [List.length_drop] at hll
            have hlt : T.line (L.drop k) = (L.drop k).take (T.line (L.drop k)).length := by
              unfold T.line
              have hx := T.ix_room (L.drop k) [10]
              split
              · rw [List.length_take, Nat.min_eq_left (by have := hx (by assumption); omega)]
              · rw [List.take_length]
            have hmm : (L.take (k + (T.line (L.drop k)).length)).drop (k + 1) = (T.line (L.drop k)).drop 1 := by
              have e : ∀ ll, (L.take (k + ll)).drop (k + 1) = ((L.drop k).take ll).drop 1 := fun ll => by
                rw [List.drop_take, List.drop_take, List.drop_drop]
                congr 1
                omega
              exact (e _).trans (congrArg (List.drop 1) hlt.symm)
            have hq := past_skip k (L.take (k + (T.line (L.drop k)).length)) 1 [62] _ rfl (T.line (L.drop k)) hmm (by rw [← hpc]; exact HE.out)
            have hv := skipV_yes (k := k) hq.2 hq.1
            rw [← hpc] at hv
            rw [hv]
            have HLN := hide (rline_any _ c B L k w HR.out HL.out hn (by omega))
            have hml : (L.take (k + (T.line (L.drop k)).length)).length = k + (T.line (L.drop k)).length := by rw [List.length_take]; omega
            have HP := hide (rpast_any _ c B (L.take (k + (T.line (L.drop k)).length)) [62] (k + 1) w (HR.out.take _) (HL.out.take _) (by rw [hml]; omega) (by rw [hml]; omega) (by omega) (by decide) (by decide))
            rw [hml, show K.str [62] = ⟨#[62]⟩ from rfl, show ((k + 1 : Nat) : Int) = (k : Int) + 1 by omega] at HP
            have S1 := fun w => slice_to8 w (some ⟨g, o, none⟩) c L.length (k + (T.line (L.drop k)).length) (by omega)
            have q60 : (L.getD k 0 == 60) = true := by rw [h60]; rfl
            generalize T.pastV (L.take (k + (T.line (L.drop k)).length)) [62] (k + 1) = P at *
            generalize k + (T.line (L.drop k)).length = m at *
            clear hb HPB HEL hlb hpc hq HE hz1 hv hll hlt hmm hml hp1 hp2 hp3 h60 HZ
            generalize L.getD k 0 = z at *
            go_enter Try.func12, Try.ntmps12
            go_wp2_with fail
            refine H1.out.mono ?_; rintro _ w' ⟨rfl, rfl⟩
            go_wp2_with fail
            refine H2.out.mono ?_; rintro _ w' ⟨rfl, rfl⟩
            go_wp2_with fail
            refine H3.out.mono ?_; rintro _ w' ⟨rfl, rfl⟩
            go_wp2_with fail
            refine HLN.out.mono ?_; rintro _ w' ⟨rfl, rfl⟩
            go_wp2_with fail
            refine HP.out.mono ?_; rintro _ w' ⟨rfl, rfl⟩
            go_wp2
            go_ret2
            exact ⟨rfl, rfl⟩
          · have q60 : (L.getD k 0 == 60) = false := by simpa using h60
            by_cases h123 : L.getD k 0 = 123
            · have hz1 : (L.drop k).getD 0 0 = 123 := HZ.out.trans h123
              have hpc : T.piece (L.drop k) = T.action (L.drop k) := T.piece_123 _ hz1
              rcases hact : T.act ((L.drop k).length + 1) (L.drop k) 0 with _ | n
              · exfalso
                have := HE.out
                rw [hpc] at this
                unfold T.action at this
                rw [hact] at this
                simp at this
              · have hpc2 : T.piece (L.drop k) = (0, n, 0) := by rw [hpc]; unfold T.action; rw [hact]
                have hv : skipV k (T.piece (L.drop k)) = .tuple #[.int .i64 ((k + n : Nat) : Int), .bool true] := skipV_yes (by rw [hpc2]) (by rw [hpc2])
                rw [hv]
                have HP := hide (raction_any _ c B L k n _ w HR.out hn hk h123 hact)
                have q123 : (L.getD k 0 == 123) = true := by rw [h123]; rfl
                generalize k + n = P at *
                clear hb HPB HEL hlb hpc hpc2 hact HE hz1 hv hp1 hp2 hp3 h60 h123 HZ
                generalize L.getD k 0 = z at *
                go_enter Try.func12, Try.ntmps12
                go_wp2_with fail
                refine H1.out.mono ?_; rintro _ w' ⟨rfl, rfl⟩
                go_wp2_with fail
                refine H2.out.mono ?_; rintro _ w' ⟨rfl, rfl⟩
                go_wp2_with fail
                refine H3.out.mono ?_; rintro _ w' ⟨rfl, rfl⟩
                go_wp2_with fail
                refine HP.out.mono ?_; rintro _ w' ⟨rfl, rfl⟩
                go_wp2
                go_ret2
                exact ⟨rfl, rfl⟩
            · have q123 : (L.getD k 0 == 123) = false := by simpa using h123
              have hv := skipV_no (k := k) (HEL.out hb hp1 hp2 hp3 h60 h123 HE.out)
              rw [hv]
              clear hb HPB HEL hlb HE hv hp1 hp2 hp3 h60 h123 HZ
              generalize L.getD k 0 = z at *
              go_enter Try.func12, Try.ntmps12
              go_wp2_with fail
              refine H1.out.mono ?_; rintro _ w' ⟨rfl, rfl⟩
              go_wp2_with fail
              refine H2.out.mono ?_; rintro _ w' ⟨rfl, rfl⟩
              go_wp2_with fail
              refine H3.out.mono ?_; rintro _ w' ⟨rfl, rfl⟩
              go_wp2
              go_ret2
              exact ⟨rfl, rfl⟩
        · rw [hp3] at H3
          have hn37 : T.pre (L.drop k) [37, 37] = false := by
            rcases hh : T.pre (L.drop k) [37, 37] with _ | _
            · rfl
            · have e1 := (T.pre_two _ _ _ hlb (by intro x hx; simp at hx; omega) hh).2
              have e2 := (T.pre_two _ _ _ hlb (by intro x hx; simp at hx; omega) hp3).2
              omega
          have hz1 := (T.pre_two _ _ _ hlb (by intro x hx; simp at hx; omega) hp3).1
          have hpc : T.piece (L.drop k) = T.skip (L.drop k) 2 [37, 125] := by rw [T.piece_37 _ hz1]; unfold T.percent; rw [if_neg (by rw [hn37]; simp), if_pos hp3]
          have hq := past_skip k L 2 [37, 125] _ rfl (L.drop k) (by rw [List.drop_drop]) (by rw [← hpc]; exact HE.out)
          have hv := skipV_yes (k := k) hq.2 hq.1
          rw [← hpc] at hv
          rw [hv]
          have HP := hide (rpast_any _ c B L [37, 125] (k + 2) w HR.out HL.out hc hn (by omega) (by decide) (by decide))
          rw [show K.str [37, 125] = ⟨#[37, 125]⟩ from rfl, show ((k + 2 : Nat) : Int) = (k : Int) + 2 by omega] at HP
          clear hb HPB HEL hlb hpc hq HE hz1 hv hp1 hp2 hp3 hn37 HZ
          generalize T.pastV L [37, 125] (k + 2) = P at *
          generalize L.getD k 0 = z at *
          go_enter Try.func12, Try.ntmps12
          go_wp2_with fail
          refine H1.out.mono ?_; rintro _ w' ⟨rfl, rfl⟩
          go_wp2_with fail
          refine H2.out.mono ?_; rintro _ w' ⟨rfl, rfl⟩
          go_wp2_with fail
          refine H3.out.mono ?_; rintro _ w' ⟨rfl, rfl⟩
          go_wp2_with fail
          refine HP.out.mono ?_; rintro _ w' ⟨rfl, rfl⟩
          go_wp2
          go_ret2
          exact ⟨rfl, rfl⟩
      · rw [hp2] at H2
        have hz1 := (T.pre_two _ _ _ hlb (by intro x hx; simp at hx; omega) hp2).1
        have hpc : T.piece (L.drop k) = (0, (T.line (L.drop k)).length, 0) := by rw [T.piece_47 _ hz1]; unfold T.comment; rw [if_neg (by rw [hp1]; simp), if_pos hp2]
        have hv : skipV k (T.piece (L.drop k)) = .tuple #[.int .i64 ((k + (T.line (L.drop k)).length : Nat) : Int), .bool true] := skipV_yes (by rw [hpc]) (by rw [hpc])
        rw [hv]
        have HP := hide (rline_any _ c B L k w HR.out HL.out hn (by omega))
        generalize k + (T.line (L.drop k)).length = P at *
        clear hb HPB HEL hlb hpc HE hz1 hv hp1 hp2 HZ
        generalize L.getD k 0 = z at *
        go_enter Try.func12, Try.ntmps12
        go_wp2_with fail
        refine H1.out.mono ?_; rintro _ w' ⟨rfl, rfl⟩
        go_wp2_with fail
        refine H2.out.mono ?_; rintro _ w' ⟨rfl, rfl⟩
        go_wp2_with fail
        refine HP.out.mono ?_; rintro _ w' ⟨rfl, rfl⟩
        go_wp2
        go_ret2
        exact ⟨rfl, rfl⟩
    · rw [hp1] at H1
      have hz1 := (T.pre_two _ _ _ hlb (by intro x hx; simp at hx; omega) hp1).1
      have hpc : T.piece (L.drop k) = T.skip (L.drop k) 2 [42, 47] := by rw [T.piece_47 _ hz1]; unfold T.comment; rw [if_pos hp1]
      have hq := past_skip k L 2 [42, 47] _ rfl (L.drop k) (by rw [List.drop_drop]) (by rw [← hpc]; exact HE.out)
      have hv := skipV_yes (k := k) hq.2 hq.1
      rw [← hpc] at hv
      rw [hv]
      have HP := hide (rpast_any _ c B L [42, 47] (k + 2) w HR.out HL.out hc hn (by omega) (by decide) (by decide))
      rw [show K.str [42, 47] = ⟨#[42, 47]⟩ from rfl, show ((k + 2 : Nat) : Int) = (k : Int) + 2 by omega] at HP
      clear hb HPB HEL hlb hpc hq HE hz1 hv hp1 HZ
      generalize T.pastV L [42, 47] (k + 2) = P at *
      generalize L.getD k 0 = z at *
      go_enter Try.func12, Try.ntmps12
      go_wp2_with fail
      refine H1.out.mono ?_; rintro _ w' ⟨rfl, rfl⟩
      go_wp2_with fail
      refine HP.out.mono ?_; rintro _ w' ⟨rfl, rfl⟩
      go_wp2
      go_ret2
      exact ⟨rfl, rfl⟩
end Go.Proofs.Ytgmcpkecppfkgaa
