/- Contract of nat's groupsOf over this program: a number's groups of nine digits, the lowest one first. -/
import Derived.Test.YthnfdbgejmkaaaaDoorParse
import Derived.Test.YthnfdbgejmkaaaaDoorStr
namespace Go.Proofs.YthnfdbgejmkaaaaDoor
open Go.RowKit

/-- Groups of nine digits, the lowest one first. -/
def gB (n : Nat) : List Int := if n = 0 then [] else ((n % 1000000000 : Nat) : Int) :: gB (n / 1000000000)
termination_by n
decreasing_by omega
theorem gB_zero : gB 0 = [] := by rw [gB]; simp
theorem gB_pos {n : Nat} (h : n ≠ 0) : gB n = ((n % 1000000000 : Nat) : Int) :: gB (n / 1000000000) := by rw [gB, if_neg h]
theorem gB_getD (n i : Nat) : (gB n).getD i 0 = ((n / 1000000000 ^ i % 1000000000 : Nat) : Int) := by
  induction i generalizing n with
  | zero =>
    by_cases e : n = 0
    · subst e; rw [gB_zero]; simp
    · rw [gB_pos e]; simp
  | succ i ih =>
    by_cases e : n = 0
    · subst e; rw [gB_zero]; simp
    · rw [gB_pos e, List.getD_cons_succ, ih, Nat.pow_succ, Nat.mul_comm, Nat.div_div_eq_div_mul]
theorem gB_length {n k : Nat} : k < (gB n).length ↔ 1000000000 ^ k ≤ n := by
  induction k generalizing n with
  | zero =>
    by_cases e : n = 0
    · subst e; simp [gB_zero]
    · rw [gB_pos e]; simp; omega
  | succ k ih =>
    by_cases e : n = 0
    · subst e; rw [gB_zero]
      have : 0 < 1000000000 ^ (k + 1) := Nat.pow_pos (by omega)
      simp
    · rw [gB_pos e, List.length_cons, Nat.add_lt_add_iff_right, ih, Nat.pow_succ, Nat.le_div_iff_mul_le (by omega)]

theorem UM.shrink {w : World} {g : Nat} {xs : List Int} {post : List Value} (h : UM w g [] xs post) (k : Nat) : UM w g [] (xs.take k) ((xs.drop k).map (Value.int .u32) ++ post) := by
  unfold UM at h ⊢
  rw [h]
  congr 2
  rw [List.nil_append, List.nil_append, ← List.append_assoc, ← List.map_append, List.take_append_drop]
theorem UM.grown {w w' : World} {g : Nat} {pre post : List Value} {xs : List Int} {row : Option Nat} (h : UM w g pre xs post) (hb : w.grownBy w' row) (hg : some g ≠ row) : UM w' g pre xs post := (hb.block g h.lt hg).trans h

theorem group_div {m : Nat} {V r : Int} (h : (m : Int) = 1000000000 * V + r) (h0 : 0 ≤ r) (h1 : r < 1000000000) (_hV : 0 ≤ V) : V.toNat = m / 1000000000 ∧ r = ((m % 1000000000 : Nat) : Int) := by omega

/-- What is left to be divided: nothing, or a number in a block of the call's own, below another one. -/
def Rest (w : World) (B0 B : Nat) (m : Nat) (v : Value) : Prop :=
  (m = 0 ∧ ∃ A c, v = .slice A 0 c) ∨ ∃ g c post, v = .slice (some ⟨g, 0, none⟩) (M.canon m).length c ∧ (M.canon m).length ≤ c ∧ c ≤ maxLen ∧ B0 ≤ g ∧ g < B ∧ UM w g [] (M.canon m) post

set_option maxHeartbeats 1000000 in
set_option maxRecDepth 100000 in
theorem groupsOf_any (A : Option Addr) (ca B n : Nat) (w : World) (hra : Rd w B A (M.canon n)) (h32 : (M.canon n).length ≤ 32) (hB : B ≤ w.heap.size) :
    Calls Tryd.prog 50 #[.slice A (M.canon n).length ca] w (GotO (gB n) w) := by
  have C := hide (clone_any A ca B (M.canon n) w hra (by omega) hB)
  have hgl : (gB n).length ≤ 1000000 := by
    rcases Nat.lt_or_ge 1000000 (gB n).length with h | h
    · exfalso
      have h1 := gB_length.1 (show 40 < (gB n).length by omega)
      have h2 := (M.canon_length_le (n := n) (k := 32)).1 h32
      have h3 : M.pw 32 ≤ ((1000000000 ^ 40 : Nat) : Int) := by unfold M.pw; decide
      omega
    · exact h
  clear hra
  go_enter Tryd.func50, Tryd.ntmps50
  go_wp2_with fail
  refine C.out.mono ?_
  rintro e w1 ⟨v, rfl, ho, hb⟩
  have hrest : Rest w1 w.heap.size w1.heap.size n v := by
    rcases UM.of_own ho with ⟨rfl, h0⟩ | ⟨g, c, post, rfl, hc1, hc2, hg, hum⟩
    · exact .inl ⟨M.canon_eq_nil.1 h0, none, 0, rfl⟩
    · exact .inr ⟨g, c, post, rfl, hc1, hc2, hg, hum.lt, hum⟩
  clear ho
  go_wp2_with fail
  go_loopw [3, 4] (fun vr vg wr => ∃ (m : Nat) (gs : List Int) (A : Option Addr) (k c : Nat), Rest wr w.heap.size w1.heap.size m vr ∧ vg = .slice A k c ∧ k = gs.length ∧ OwnU wr w1.heap.size vg gs ∧ gs ++ gB m = gB n ∧ (M.canon m).length ≤ 32 ∧ Below w.heap.size w wr ∧ w1.heap.size ≤ wr.heap.size) (fun _ vg _ => (gB n).length - (match vg with | .slice _ k _ => k | _ => 0))
  case atStart => exact ⟨n, [], none, 0, 0, hrest, rfl, rfl, OwnU.nil _ _, rfl, h32, hb, Nat.le_refl _⟩
  case round =>
    rename_i vr _
    obtain ⟨m, gs, Ag, k, cg, hrs, rfl, hk, hown, hgs, hm32, hbl, hsz⟩ := hrel
    have HK := hide hk
    have HGS := hide hgs
    clear hk hgs hrest
    rcases hrs with ⟨h0, Ar, cr, rfl⟩ | ⟨g, c, post, rfl, hc1, hc2, hg0, hg, hum⟩
    · subst h0
      have e := HGS.out
      rw [gB_zero, List.append_nil] at e
      have HE := hide e
      clear e
      go_wp2
      go_ret
      refine ⟨_, rfl, ?_, hbl⟩
      rw [← HE.out]
      exact ⟨hown.1, hown.2.imp id (fun ⟨g, cap, cur, h1, h2, h3⟩ => ⟨g, cap, cur, h1, Nat.le_trans hb.size h2, h3⟩)⟩
    · by_cases hz : m = 0
      · subst hz
        have e := HGS.out
        rw [gB_zero, List.append_nil] at e
        rw [M.canon_zero]
        have HE := hide e
        clear e hum
        go_wp2
        go_ret
        refine ⟨_, rfl, ?_, hbl⟩
        rw [← HE.out]
        exact ⟨hown.1, hown.2.imp id (fun ⟨g, cap, cur, h1, h2, h3⟩ => ⟨g, cap, cur, h1, Nat.le_trans hb.size h2, h3⟩)⟩
      · have hlen : 0 < (M.canon m).length := by
          rcases Nat.eq_zero_or_pos (M.canon m).length with h | h
          · exact absurd (M.canon_eq_nil.1 (List.eq_nil_of_length_eq_zero h)) hz
          · exact h
        have D := hide (divideBy_any g 0 c 1000000000 [] (M.canon m) post wr hum rfl (M.lim_canon m) (by omega) (by omega) (by omega))
        have hgl' : (gB m).length ≠ 0 := by rw [gB_pos hz]; simp
        have hsum := congrArg List.length HGS.out
        rw [List.length_append] at hsum
        have hkk := HK.out
        have hkm : k < (gB n).length := by omega
        have hvm := M.val_canon m
        generalize hxs : M.canon m = xs at *
        clear hum
        have HXS := hide hxs
        clear hxs hsum hkk
        go_wp2_with fail
        refine D.out.mono ?_
        rintro e w2 ⟨xs', r, rfl, k1, k2, k3, k4, k5, k6, k7⟩
        rw [hvm] at k5
        have hgd := group_div k5 k1 k2 (M.val_nonneg k4)
        have hs2 := k7.size
        have hown2 : OwnU w2 w1.heap.size (.slice Ag k cg) gs := World.ownsRow.kept hown k7 (by
          rcases hv : (Value.slice Ag k cg).ownBlock with _ | gb
          · exact .inl rfl
          · right; intro e; injection e with e
            have := (World.ownsRow.lt hown gb hv).1; omega)
        have hb2 : Below w.heap.size w w2 := below_only hbl k7 hg0 hbl.size
        have HGD := hide hgd
        have HK3 := hide k3
        have HVM := hide hvm
        clear k5 hgd k3 hvm hown D
        go_wp2_with (at_builtin; refine ap_arm rfl (.tmp 10) (.tmp 13) _ rfl Tryd.underlying22 w1.heap.size _ gs rfl (hown2.alloc _) w2.heap.size 1 r rfl (World.cell?_alloc_new _ _ _ 0) (by have := HK.out; omega) (by simp; omega) ?_; intro v' w3 ho3 hg3)
        have hnb : some g ≠ (Value.slice Ag k cg).ownBlock := by
          intro e
          have := (World.ownsRow.lt hown2 g e.symm).1; omega
        have hum3 : UM w3 g [] xs' post := UM.grown ((Below.heap_alloc w2 _ g k6.lt).trans k6) hg3 hnb
        have hs3 := hg3.size
        have hbs := hb2.size
        have hb3 : Below w.heap.size w w3 := (hb2.alloc hb2.size _).grown hg3 (by simp; omega) (fun kk e => Nat.le_trans hb.size (World.ownsRow.lt hown2 kk e).1)
        have T := trim_rd (some ⟨g, 0, none⟩) xs.length c xs' w w3 (hum3.rd hum3.lt) k4 hb3 HK3.out.symm (by have := HK3.out; omega) (by unfold maxLen at hc2; omega)
        rw [HGD.out.1] at T
        have hm' : (M.canon (m / 1000000000)).length ≤ 32 := M.canon_length_le.2 (by
          have h1 := (M.canon_length_le (n := m) (k := 32)).1 (by rw [HXS.out]; exact hm32)
          omega)
        have hgs' : (gs ++ [r]) ++ gB (m / 1000000000) = gB n := by
          have h1 := HGS.out
          rw [gB_pos hz, ← HGD.out.2] at h1
          rw [← h1]; simp
        have hpre : M.canon (m / 1000000000) = xs'.take (M.canon (m / 1000000000)).length := by
          rw [← HGD.out.1, ← M.trim_eq_canon k4]; exact M.trim_prefix xs'
        have hum4 := hum3.shrink (M.canon (m / 1000000000)).length
        rw [← hpre] at hum4
        obtain ⟨A3, c3, rfl, y1, y2, y3⟩ := ho3.form
        rw [List.length_append, List.length_singleton] at ho3
        have hlen3 : (gs ++ [r]).length = k + 1 := by rw [List.length_append, HK.out]; rfl
        have HT := hide T
        have HG2 := hide hgs'
        have HU4 := hide hum4
        have HL3 := hide hlen3
        clear T hgs' hpre hum4 hum3 hown2 k6 y3 hgl' hlen3 hnb
        go_wp2_with fail
        refine HT.out.mono ?_
        rintro e w4 ⟨A4, c4, rfl, m1, m2, m3, m4, m5, rfl⟩
        have hr4 : Rest w3 w.heap.size w1.heap.size (m / 1000000000) (.slice A4 (M.canon (m / 1000000000)).length c4) := by
          rcases m5 with ⟨q1, rfl, rfl⟩ | ⟨_, rfl, rfl⟩
          · exact .inl ⟨M.canon_eq_nil.1 q1, none, 0, by rw [q1]; rfl⟩
          · exact .inr ⟨g, _, _, rfl, m1, hc2, hg0, hg, HU4.out⟩
        have HR4 := hide hr4
        clear hr4 m5 m3
        go_wp2
        go_roundw
        case rel => exact ⟨m / 1000000000, gs ++ [r], A3, _, c3, HR4.out, rfl, (by rw [List.length_append]; rfl), ho3, HG2.out, hm', hb3, by simp at hs3; omega⟩
        case measure => have := HL3.out; show (gB n).length - (gs.length + 1) < (gB n).length - k; have := HK.out; omega
end Go.Proofs.YthnfdbgejmkaaaaDoor
