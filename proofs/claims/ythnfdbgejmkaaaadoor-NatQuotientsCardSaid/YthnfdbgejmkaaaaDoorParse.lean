/- Contract of nat's Parse over this program: a text's number, group by group. -/
import Derived.Test.YthnfdbgejmkaaaaDoorDec
namespace Go.Proofs.YthnfdbgejmkaaaaDoor
open Go.RowKit

theorem own_um {w : World} {base : Nat} {v : Value} {xs : List Int} (h : OwnU w base v xs) : (v = .slice none 0 0 ∧ xs = []) ∨ ∃ g c post, v = .slice (some ⟨g, 0, none⟩) xs.length c ∧ c = xs.length + post.length ∧ c ≤ maxLen ∧ base ≤ g ∧ UM w g [] xs post := by
  rcases h.2 with ⟨rfl, h0⟩ | ⟨g, cap, cur, rfl, hb, hg, hn, hm, hs, ht⟩
  · exact .inl ⟨rfl, List.eq_nil_of_length_eq_zero h0⟩
  · refine .inr ⟨g, cap, cur.toList.drop xs.length, rfl, ?_, hm, hb, ?_⟩
    · have hcl : cur.toList.length = cur.size := Array.length_toList
      rw [List.length_drop]; omega
    · unfold UM
      rw [hg, List.nil_append, ← ht, Nat.mul_one, List.take_append_drop]
theorem um_own {w : World} {base g c : Nat} {xs : List Int} {post : List Value} (h : UM w g [] xs post) (hc : c = xs.length + post.length) (hm : c ≤ maxLen) (hb : base ≤ g) : OwnU w base (.slice (some ⟨g, 0, none⟩) xs.length c) xs :=
  ⟨by simp, .inr ⟨g, c, _, rfl, hb, h, by omega, hm, by simp [hc], by simp⟩⟩
theorem UM.cell0 {w : World} {g : Nat} {post : List Value} {xs : List Int} (h : UM w g [] xs post) (k : Nat) (hk : k < xs.length) : w.cell? ⟨g, k, none⟩ = some (.int .u32 (xs.getD k 0)) := by
  have := h.mid (o := 0) rfl k hk; rwa [Nat.zero_add] at this
theorem UM.set0 {w : World} {g : Nat} {post : List Value} {xs : List Int} (h : UM w g [] xs post) (k : Nat) (z : Int) (hk : k < xs.length) : UM (w.setCell ⟨g, k, none⟩ (.int .u32 z)) g [] (xs.set k z) post := by
  have := h.mid_set (o := 0) rfl k z hk; rwa [Nat.zero_add] at this

theorem numD_from (l : List UInt8) : ∀ a : Nat, l.foldl (fun a c => a * 10 + (c.toNat - 48)) a = a * 10 ^ l.length + numD l := by
  induction l with
  | nil => intro a; simp [numD]
  | cons c r ih =>
    intro a
    have e : numD (c :: r) = (c.toNat - 48) * 10 ^ r.length + numD r := by
      show r.foldl _ (0 * 10 + (c.toNat - 48)) = _
      rw [ih, Nat.zero_mul, Nat.zero_add]
    rw [List.foldl_cons, ih, e, List.length_cons, Nat.pow_succ]
    grind
theorem numD_cons (c : UInt8) (r : List UInt8) : numD (c :: r) = (c.toNat - 48) * 10 ^ r.length + numD r := by
  show r.foldl _ (0 * 10 + (c.toNat - 48)) = _
  rw [numD_from, Nat.zero_mul, Nat.zero_add]
theorem numD_append (a b : List UInt8) : numD (a ++ b) = numD a * 10 ^ b.length + numD b := by
  show (a ++ b).foldl _ 0 = _
  rw [List.foldl_append, numD_from]; rfl
theorem numD_snoc (a : List UInt8) (c : UInt8) : numD (a ++ [c]) = numD a * 10 + (c.toNat - 48) := by unfold numD; rw [List.foldl_append]; rfl
theorem numD_lt {l : List UInt8} (h : l.all dig = true) : numD l < 10 ^ l.length := by
  induction l with
  | nil => simp [numD]
  | cons c r ih =>
    rw [List.all_cons, Bool.and_eq_true] at h
    have h1 := ih h.2
    have hc := h.1
    simp only [dig, Bool.and_eq_true, decide_eq_true_eq] at hc
    rw [numD_cons, List.length_cons, Nat.pow_succ]
    have h2 : (c.toNat - 48) * 10 ^ r.length ≤ 9 * 10 ^ r.length := Nat.mul_le_mul_right _ (by omega)
    omega
def p10 (k : Nat) : Int := ((10 ^ k : Nat) : Int)
theorem p10_zero : p10 0 = 1 := rfl
theorem p10_succ (k : Nat) : p10 (k + 1) = p10 k * 10 := by unfold p10; rw [Nat.pow_succ]; omega
theorem p10_bd {k : Nat} (h : k ≤ 9) : 1 ≤ p10 k ∧ p10 k ≤ 1000000000 := by
  unfold p10
  have h1 : 10 ^ k ≤ 10 ^ 9 := Nat.pow_le_pow_right (by omega) h
  have h2 : 1 ≤ 10 ^ k := Nat.one_le_pow _ _ (by omega)
  omega
theorem numD_p10 {l : List UInt8} (h : l.all dig = true) : (numD l : Int) < p10 l.length := by
  have := numD_lt h; unfold p10; omega

theorem canon_of_low {zs : List Int} (h : M.Lim zs) (hl : zs.length = 0 ∨ M.pw (zs.length - 1) ≤ M.val zs) : zs = M.canon (M.val zs).toNat := by
  rw [← M.trim_eq_canon h]
  have h1 := M.trim_length_le zs
  have h2 : zs.length ≤ (M.trim zs).length := by
    rcases hl with h0 | hl
    · omega
    · have := (M.canon_length_lt (n := (M.val zs).toNat) (k := zs.length - 1)).2 (by have := M.val_nonneg h; omega)
      rw [← M.trim_eq_canon h] at this; omega
  rw [M.trim_prefix, show (M.trim zs).length = zs.length by omega, List.take_length]
theorem canon_low {m : Nat} (h : (M.canon m).length ≠ 0) : M.pw ((M.canon m).length - 1) ≤ (m : Int) := (M.canon_length_lt (n := m)).1 (by omega)

theorem scale_step {xs xk : List Int} {k : Nat} {c cc x b lo : Int} (h : k < xk.length) (hv : M.val (xk.take k) + M.pw k * c = M.val (xs.take k) * b + lo) (hx : xs.getD k 0 = x) (hc : cc = c + x * b) :
    M.val ((xk.set k (cc % 4294967296)).take (k + 1)) + M.pw (k + 1) * (cc / 4294967296) = M.val (xs.take (k + 1)) * b + lo := by
  rw [M.set_take xk k _ h, M.val_snoc, M.val_take_succ xs, hx, List.length_take, Nat.min_eq_left (by omega), M.pw_succ]
  have := Int.emod_add_mul_ediv cc 4294967296
  generalize cc % 4294967296 = r at *
  generalize cc / 4294967296 = q at *
  generalize M.pw k = P at *
  grind

/-- What behind answers. -/
def Behind (m : Nat) (base : Nat) (w : World) (e : Ending) (w' : World) : Prop := ∃ v, e = .returned v ∧ OwnU w' base v (M.canon m) ∧ Below base w w'

theorem behind_fin {xs ys : List Int} {m : Nat} {b lo c : Int} (hx : xs = M.canon m) (hb : 1 ≤ b) (hlo : 0 ≤ lo) (hl : ys.length = xs.length) (hy : M.Lim ys) (hc0 : 0 ≤ c) (hc1 : c < 4294967296) (hv : M.val ys + M.pw xs.length * c = M.val xs * b + lo) :
    (c = 0 → ys = M.canon ((m : Int) * b + lo).toNat) ∧ (c ≠ 0 → ys ++ [c] = M.canon ((m : Int) * b + lo).toNat) := by
  have hm : M.val xs = (m : Int) := by rw [hx, M.val_canon]
  rw [hm] at hv
  have hmb : (m : Int) * 1 ≤ (m : Int) * b := Int.mul_le_mul_of_nonneg_left hb (by omega)
  constructor
  · intro h0
    subst h0
    rw [Int.mul_zero, Int.add_zero] at hv
    rw [← hv]
    refine canon_of_low hy ?_
    by_cases e : ys.length = 0
    · exact .inl e
    · have := canon_low (m := m) (by rw [← hx]; omega)
      rw [← hx] at this
      rw [hl]
      exact .inr (by omega)
  · intro h0
    have hv2 : M.val (ys ++ [c]) = (m : Int) * b + lo := by rw [M.val_snoc, hl]; exact hv
    rw [← hv2]
    refine canon_of_low (hy.snoc hc0 hc1) (.inr ?_)
    rw [M.val_snoc, List.length_append, List.length_singleton, Nat.add_sub_cancel]
    have h1 : M.pw ys.length * 1 ≤ M.pw ys.length * c := Int.mul_le_mul_of_nonneg_left (by omega) (by have := M.pw_pos ys.length; omega)
    have := M.val_nonneg hy
    omega

set_option maxHeartbeats 1000000 in
set_option maxRecDepth 100000 in
theorem behind_any (base : Nat) (A : Option Addr) (c0 m : Nat) (s : ByteArray) (w : World) (hown : OwnU w base (.slice A (M.canon m).length c0) (M.canon m)) (hd : s.data.toList.all dig = true) (hs : s.size ≤ 9) (hm : (M.canon m).length ≤ 1000000) (hbase : base ≤ w.heap.size) :
    Calls Tryd.prog 49 #[.slice A (M.canon m).length c0, .string s] w (Behind ((m : Int) * p10 s.size + (numD s.data.toList : Int)).toNat base w) := by
  have hlim := M.lim_canon m
  have hbl := bytes_len s
  generalize hxs : M.canon m = xs at *
  have HXS := hide hxs
  have HDG := hide hd
  have HBL := hide hbl
  clear hxs hd hbl
  go_enter Tryd.func49, Tryd.ntmps49
  go_wp2
  go_loop [5, 6, 13] (fun vl vb vi => ∃ (k : Nat) (lo b : Int), k ≤ s.size ∧ vi = .int .i64 k ∧ vl = .int .u64 lo ∧ vb = .int .u64 b ∧ lo = (numD (s.data.toList.take k) : Int) ∧ b = p10 k) (fun _ _ vi => s.size - (intOf vi).toNat)
  case atStart => exact ⟨0, 0, 1, Nat.zero_le _, rfl, rfl, rfl, rfl, rfl⟩
  case round =>
    obtain ⟨k, lo, b, hk, rfl, rfl, rfl, hlo, hb⟩ := hrel
    have hbd := p10_bd (show k ≤ 9 by omega)
    have hda : (s.data.toList.take k).all dig = true := by
      rw [List.all_eq_true]; intro x hx; exact List.all_eq_true.1 HDG.out x (List.mem_of_mem_take hx)
    have hnd := numD_p10 hda
    rw [List.length_take, HBL.out, Nat.min_eq_left hk, ← hlo] at hnd
    rw [← hb] at hbd hnd
    have hlo0 : 0 ≤ lo := by omega
    have HLO := hide hlo
    have HB := hide hb
    clear hlo hb hda
    by_cases hlt : k < s.size
    · have ht := bytes_take s k hlt
      have hdk : dig s[k] = true := List.all_eq_true.1 HDG.out _ (List.mem_of_getElem? (bytes_getD s k hlt))
      simp only [dig, Bool.and_eq_true, decide_eq_true_eq] at hdk
      have c1 : 48 ≤ (s[k].toNat : Int) := by omega
      have c2 : (s[k].toNat : Int) ≤ 57 := by omega
      have HN : Hid ((numD (s.data.toList.take (k + 1)) : Int) = lo * 10 + ((s[k].toNat : Int) - 48)) := by
        show (numD (s.data.toList.take (k + 1)) : Int) = lo * 10 + ((s[k].toNat : Int) - 48)
        rw [ht, numD_snoc, HLO.out]; omega
      have HP : Hid (p10 (k + 1) = b * 10) := by show p10 (k + 1) = b * 10; rw [p10_succ, HB.out]
      clear ht hdk
      go_wp2
      go_round
      case rel => exact ⟨k + 1, lo * 10 + ((s[k].toNat : Int) - 48), b * 10, hlt, by go_num, rfl, rfl, HN.out.symm, HP.out.symm⟩
      case measure => simp [intOf]; omega
    · obtain rfl : k = s.size := by omega
      have hlo := HLO.out
      rw [List.take_of_length_le (by rw [HBL.out]; exact Nat.le_refl _)] at hlo
      have HLO2 := hide hlo
      clear hlo
      rcases own_um hown with ⟨hv, hx0⟩ | ⟨g, c, post, hv, hc, hcm, hg, hum⟩
      · subst hx0
        injection hv with e1 e2 e3
        subst e1 e3
        clear e2
        have hf := behind_fin (ys := []) (c := lo) HXS.out.symm hbd.1 hlo0 rfl M.Lim.nil hlo0 (by omega) (by simp [M.val, M.pw_zero])
        rw [HB.out, HLO2.out] at hf
        have HF := hide hf
        clear hf
        go_wp2
        go_loop [8, 30] (fun vc vi => vi = .int .i64 0 ∧ vc = .int .u64 lo) (fun _ _ => 0)
        case atStart => exact ⟨rfl, rfl⟩
        case round =>
          obtain ⟨rfl, rfl⟩ := hrel
          by_cases hcz : lo = 0
          · have hcz' : (lo != 0) = false := by simp [hcz]
            have hfin := HF.out.1 (by rw [← HLO2.out]; exact hcz)
            have HFN := hide hfin
            clear hcz hfin
            go_wp2
            go_ret
            exact ⟨_, rfl, by rw [← HFN.out]; exact OwnU.nil _ _, Below.refl _ _⟩
          · have hcz' : (lo != 0) = true := by simpa using hcz
            have hfin := HF.out.2 (by rw [← HLO2.out]; exact hcz)
            rw [List.nil_append] at hfin
            have HFN := hide hfin
            clear hcz hfin
            go_wp2_with (at_builtin; refine ap_arm rfl (.tmp 51) (.tmp 54) _ rfl Tryd.underlying23 base _ [] rfl (OwnU.nil _ _) w.heap.size 1 lo rfl (World.cell?_alloc_new _ _ _ 0) (by simp) (by simp; omega) ?_; intro v' w2 ho2 hg2)
            go_ret
            rw [List.nil_append, HLO2.out, HFN.out] at ho2
            exact ⟨_, rfl, ho2, below_grown ((Below.refl _ _).alloc hbase _) (OwnU.nil _ _) hg2 (by simp; omega)⟩
      · injection hv with e1 e2 e3
        subst e1 e3
        have HC := hide hc
        clear hc e2
        go_wp2
        go_loopw [8, 30] (fun vc vi wr => ∃ (k : Nat) (cc : Int) (xk : List Int), k ≤ xs.length ∧ vi = .int .i64 k ∧ vc = .int .u64 cc ∧ 0 ≤ cc ∧ cc ≤ 1000000000 ∧ xk.length = xs.length ∧ M.Lim xk ∧ xk.drop k = xs.drop k ∧ M.val (xk.take k) + M.pw k * cc = M.val (xs.take k) * b + lo ∧ UM wr g [] xk post ∧ w.grownBy wr (some g)) (fun _ vi _ => xs.length - (intOf vi).toNat)
        case atStart => exact ⟨0, lo, xs, Nat.zero_le _, rfl, rfl, hlo0, by omega, rfl, hlim, rfl, by simp [M.val, M.pw_zero], hum, World.grownBy.refl _ _⟩
        case round =>
          obtain ⟨k, cc, xk, hk2, rfl, rfl, hc0, hc1, hlen, hlimk, hdrop, hval, humk, hgr⟩ := hrel
          by_cases hlt2 : k < xs.length
          · have hcell := humk.cell0 k (by omega)
            have hfr := humk.frozen k
            rw [M.drop_getD hdrop] at hcell
            have bx := hlim.getD k
            generalize hX : xs.getD k 0 = x at *
            have hxb : 0 ≤ x * b ∧ x * b ≤ 4294967295 * 1000000000 := ⟨Int.mul_nonneg bx.1 (by omega), Int.mul_le_mul (by omega) hbd.2 (by omega) (by omega)⟩
            have hrel' : ∀ s2 wz, s2 = cc + x * b → wz = wr.setCell ⟨g, k, none⟩ (.int .u32 (s2 % 4294967296)) → ∃ (k' : Nat) (c' : Int) (xk' : List Int), k' ≤ xs.length ∧ Value.int .i64 ((k : Int) + 1) = .int .i64 k' ∧ Value.int .u64 (s2 / 4294967296) = .int .u64 c' ∧ 0 ≤ c' ∧ c' ≤ 1000000000 ∧ xk'.length = xs.length ∧ M.Lim xk' ∧ xk'.drop k' = xs.drop k' ∧
                M.val (xk'.take k') + M.pw k' * c' = M.val (xs.take k') * b + lo ∧ UM wz g [] xk' post ∧ w.grownBy wz (some g) := by
              rintro s2 wz hs2 rfl
              exact ⟨k + 1, s2 / 4294967296, xk.set k (s2 % 4294967296), hlt2, by go_num, rfl, by omega, by omega, by rw [List.length_set]; exact hlen, hlimk.set k (by omega) (by omega), by rw [M.set_drop]; exact M.drop_more hdrop, scale_step (by omega) hval hX hs2, humk.set0 k _ (by omega), only_set hgr _ _⟩
            have HR := hide hrel'
            clear hrel' hX hlen hdrop hval hum humk hown
            go_wp2
            go_roundw
            case rel => exact HR.out _ _ rfl rfl
            case measure => simp [intOf]; omega
          · obtain rfl : k = xs.length := by omega
            rw [List.take_of_length_le (by omega), List.take_of_length_le (by omega)] at hval
            have hf := behind_fin HXS.out.symm hbd.1 hlo0 hlen hlimk hc0 (by omega) hval
            rw [HB.out, HLO2.out] at hf
            have ho := um_own (base := base) humk (by rw [hlen]; exact HC.out) hcm hg
            rw [hlen] at ho
            have hbw : Below base w wr := below_only (Below.refl _ _) hgr hg hbase
            have HF := hide hf
            have HLN := hide hlen
            clear hf hlen hval hdrop hum humk hown
            by_cases hcz : cc = 0
            · have hcz' : (cc != 0) = false := by simp [hcz]
              have hfin := HF.out.1 hcz
              have HFN := hide hfin
              clear hcz hfin
              go_wp2
              go_ret
              exact ⟨_, rfl, by rw [← HFN.out]; exact ho, hbw⟩
            · have hcz' : (cc != 0) = true := by simpa using hcz
              have hfin := HF.out.2 hcz
              have HFN := hide hfin
              clear hcz hfin
              go_wp2_with (at_builtin; refine ap_arm rfl (.tmp 51) (.tmp 54) _ rfl Tryd.underlying23 base _ xk rfl (ho.alloc _) wr.heap.size 1 cc rfl (World.cell?_alloc_new _ _ _ 0) (by have := HLN.out; omega) (by have := hgr.size; simp; omega) ?_; intro v' w2 ho2 hg2)
              go_ret
              rw [HFN.out] at ho2
              exact ⟨_, rfl, ho2, below_grown (hbw.alloc (by have := hgr.size; omega) _) (ho.alloc _) hg2 (by have := hgr.size; simp; omega)⟩
end Go.Proofs.YthnfdbgejmkaaaaDoor
