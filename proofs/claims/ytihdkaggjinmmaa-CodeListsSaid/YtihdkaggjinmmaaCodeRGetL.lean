/- The contract of the document's own GetList over this program. -/
import Derived.Test.YtihdkaggjinmmaaCodeList
namespace Go.Proofs.Ytihdkaggjinmmaa
open Go.RowKit

set_option maxHeartbeats 2000000 in
set_option maxRecDepth 100000 in
theorem rgetList_any (A : Option Addr) (c : Nat) (b : List Int) (a most : Int) (w : World) (hr : RdB w w.heap.size A b) (hb : K.Bytes b) (hc : b.length ≤ 9223372036854775807) :
    Calls Try.prog 15 #[.slice A b.length c, .int .i64 a, .int .i64 most] w (GotLI (V.list b a most) w) := by
  have HG := hide (fun (a : Int) (w1 : World) (h : Below w.heap.size w w1) => rget_any A c w.heap.size b a w1 (hr.below h (Nat.le_refl _)) hb hc)
  have HFa := hide (fun a => V.get_facts hb a)
  have hf := V.get_facts hb a
  have hL : V.list b a most = if (V.get b a).2.2 ≠ 0 then ([], 0, (V.get b a).2.2) else if most < ((V.get b a).1 : Int) then ([], 0, 5) else V.items b (V.get b a).1 (V.get b a).2.1 [] := rfl
  generalize V.list b a most = R at *
  have G0 := HG.out a w (Below.refl _ _)
  generalize V.get b a = r at *
  obtain ⟨n, p, er⟩ := r
  have G1 := hide (show Calls Try.prog 9 #[.slice A b.length c, .int .i64 a] w fun e w' => e = .returned (.tuple #[.int .u32 (n : Int), .int .i64 (p : Int), .int .i64 (er : Int)]) ∧ w' = w from G0)
  dsimp only at hf hL
  have HL := hide hL
  obtain ⟨hn, hp, her, _⟩ := hf
  clear hr G0 hL hb
  go_enter Try.func15, Try.ntmps15
  go_wp2_with fail
  refine G1.out.mono ?_; rintro _ w ⟨rfl, rfl⟩
  clear G1
  by_cases he : er = 0
  · subst he
    by_cases hmo : most < (n : Int)
    · obtain rfl : R = ([], 0, 5) := by rw [HL.out, if_neg (by simp), if_pos hmo]
      go_wp2
      go_ret3
      exact ⟨_, rfl, OwnI.nil _ _, Below.refl _ _⟩
    · have HR := hide (show V.items b n p [] = R by rw [HL.out, if_neg (by simp), if_neg hmo])
      clear HL
      go_wp2_with fail
      go_loopw [12, 1, 11] (fun vi va vl wr => ∃ (k q : Nat) (acc : List Int), k ≤ n ∧ vi = .int .i64 k ∧ va = .int .i64 q ∧ acc.length = k ∧ V.items b (n - k) q acc = R ∧ OwnI wr w.heap.size vl acc ∧ Below w.heap.size w wr) (fun vi _ _ _ => n - (intOf vi).toNat)
      case atStart => exact ⟨0, p, [], Nat.zero_le _, rfl, rfl, rfl, HR.out, OwnI.nil _ _, Below.refl _ _⟩
      case round =>
        obtain ⟨k, q, acc, hk, rfl, rfl, hlen, hs, ho, hbl⟩ := hrel
        have HO := hide ho
        have HB := hide hbl
        have HLN := hide hlen
        clear ho hbl hlen HR
        by_cases hlt : k < n
        · rw [show n - k = (n - (k + 1)) + 1 by omega] at hs
          unfold V.items at hs
          have G0 := HG.out q wr HB.out
          have hf := HFa.out q
          generalize V.get b q = r at *
          obtain ⟨x, s, ex⟩ := r
          have G1 := hide (show Calls Try.prog 9 #[.slice A b.length c, .int .i64 q] wr fun e w' => e = .returned (.tuple #[.int .u32 (x : Int), .int .i64 (s : Int), .int .i64 (ex : Int)]) ∧ w' = wr from G0)
          dsimp only at hf hs
          obtain ⟨hx, hs2, hex, _⟩ := hf
          have HS := hide hs
          clear hs G0
          go_wp2_with fail
          refine G1.out.mono ?_; rintro _ wr ⟨rfl, rfl⟩
          clear G1
          by_cases hex0 : ex = 0
          · subst hex0
            by_cases hx31 : 2147483648 ≤ x
            · obtain rfl : R = ([], 0, 3) := by rw [← HS.out, if_neg (by simp), if_pos hx31]
              have hF : ((2147483648 : Int) ≤ (x : Int)) = True := eq_true (by omega)
              clear hx31 hx
              go_wp2
              go_ret3
              exact ⟨_, rfl, OwnI.nil _ _, HB.out⟩
            · have HN := hide (show V.items b (n - (k + 1)) s (acc ++ [(x : Int)]) = R by rw [← HS.out, if_neg (by simp), if_neg hx31])
              have hF : ((2147483648 : Int) ≤ (x : Int)) = False := eq_false (by omega)
              clear HS hx31
              go_wp2_with (at_builtin; refine apI_arm rfl (.tmp 48) (.tmp 51) _ rfl Try.underlying30 w.heap.size _ acc rfl (HO.out.alloc _) wr.heap.size 1 x rfl (World.cell?_alloc_new _ _ _ 0) (by have := HLN.out; omega) (by have := HB.out.size; simp; omega) ?_; intro v' w2 ho2 hg2)
              go_roundw
              case rel => exact ⟨k + 1, s, acc ++ [(x : Int)], hlt, by go_num, rfl, by rw [List.length_append, HLN.out]; rfl, HN.out, ho2, below_grownI (HB.out.alloc (by have := HB.out.size; omega) _) (HO.out.alloc _) hg2 (by have := HB.out.size; simp; omega)⟩
              case measure => simp [intOf]; omega
          · obtain rfl : R = ([], 0, ex) := by rw [← HS.out, if_pos hex0]
            have hne : ((ex : Int) != 0) = true := by simp; omega
            clear hex0
            go_wp2
            go_ret3
            exact ⟨_, rfl, OwnI.nil _ _, HB.out⟩
        · obtain rfl : k = n := by omega
          rw [Nat.sub_self] at hs
          obtain rfl : R = (acc, q, 0) := by rw [← hs]; rfl
          go_wp2
          go_ret3
          exact ⟨_, rfl, HO.out, HB.out⟩
  · obtain rfl : R = ([], 0, er) := by rw [HL.out, if_pos he]
    have hne : ((er : Int) != 0) = true := by simp; omega
    clear he HL
    go_wp2
    go_ret3
    exact ⟨_, rfl, OwnI.nil _ _, Below.refl _ _⟩
end Go.Proofs.Ytihdkaggjinmmaa
