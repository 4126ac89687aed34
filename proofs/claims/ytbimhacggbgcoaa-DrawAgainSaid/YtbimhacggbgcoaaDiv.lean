/- Contracts of the copies of a number (slices.Clone, Copy), of divideBy, and of nat's Div and Of over this program. -/
import Derived.Test.YtbimhacggbgcoaaSub
namespace Go.Proofs.Ytbimhacggbgcoaa
open Go.RowKit

/-- Block g holds xs between what else it holds. -/
def UM (w : World) (g : Nat) (pre : List Value) (xs : List Int) (post : List Value) : Prop := w.heap[g]? = some (.cells (pre ++ xs.map (Value.int .u32) ++ post).toArray 34 (0, 0))
theorem UM.lt {w : World} {g : Nat} {pre post : List Value} {xs : List Int} (h : UM w g pre xs post) : g < w.heap.size := by
  rcases Nat.lt_or_ge g w.heap.size with hlt | hge
  · exact hlt
  · unfold UM at h; rw [Array.getElem?_eq_none hge] at h; cases h
theorem UM.frozen {w : World} {g : Nat} {pre post : List Value} {xs : List Int} (h : UM w g pre xs post) (i : Nat) : w.frozen? ⟨g, i, none⟩ = false := frozen_of_row w g i _ _ h
theorem UM.mid {w : World} {g o : Nat} {pre post : List Value} {xs : List Int} (h : UM w g pre xs post) (ho : o = pre.length) (k : Nat) (hk : k < xs.length) : w.cell? ⟨g, o + k, none⟩ = some (.int .u32 (xs.getD k 0)) := by
  rw [cell_of_row w g (o + k) _ _ _ h, ho, List.getElem?_toArray, List.getElem?_append_left (by simp; omega), List.getElem?_append_right (by omega), show pre.length + k - pre.length = k by omega]
  simp [hk, List.getD]
theorem UM.mid_set {w : World} {g o : Nat} {pre post : List Value} {xs : List Int} (h : UM w g pre xs post) (ho : o = pre.length) (k : Nat) (z : Int) (hk : k < xs.length) : UM (w.setCell ⟨g, o + k, none⟩ (.int .u32 z)) g pre (xs.set k z) post := by
  unfold UM at h ⊢
  rw [heap_setCell_same w g (o + k) _ _ _ h]
  congr 2
  apply Array.ext'
  rw [ho]
  simp only [Array.toList_setIfInBounds]
  rw [List.set_append_left _ _ (by simp; omega), List.set_append_right _ _ (by omega), show pre.length + k - pre.length = k by omega, List.map_set]
theorem UM.drewN {w : World} {g : Nat} {pre post : List Value} {xs : List Int} (h : UM w g pre xs post) (n : Nat) : UM (w.drewN n) g pre xs post := h
theorem UM.rd {w : World} {g : Nat} {pre post : List Value} {xs : List Int} (h : UM w g pre xs post) {B : Nat} (hB : g < B) : Rd w B (some ⟨g, pre.length, none⟩) xs := fun _ => ⟨g, pre.length, rfl, hB, fun j hj => h.mid rfl j hj⟩
theorem UM.below {w w' : World} {g B : Nat} {pre post : List Value} {xs : List Int} (h : UM w g pre xs post) (hb : Below B w w') (hg : g < B) : UM w' g pre xs post := (hb.block g hg).trans h
theorem UM.of_own {w : World} {base : Nat} {v : Value} {xs : List Int} (h : OwnU w base v xs) : (v = .slice none 0 0 ∧ xs = []) ∨ ∃ g c post, v = .slice (some ⟨g, 0, none⟩) xs.length c ∧ xs.length ≤ c ∧ c ≤ maxLen ∧ base ≤ g ∧ UM w g [] xs post := by
  rcases h.2 with ⟨rfl, h0⟩ | ⟨g, cap, cur, rfl, hb, hg, hn, hm, hs, ht⟩
  · exact .inl ⟨rfl, List.eq_nil_of_length_eq_zero h0⟩
  · refine .inr ⟨g, cap, cur.toList.drop xs.length, rfl, hn, hm, hb, ?_⟩
    unfold UM
    rw [hg, List.nil_append, ← ht, Nat.mul_one, List.take_append_drop]

def DivideBy (g : Nat) (pre : List Value) (xs : List Int) (post : List Value) (d : Int) (w : World) (e : Ending) (w' : World) : Prop :=
  ∃ (xs' : List Int) (r : Int), e = .returned (.int .u32 r) ∧ 0 ≤ r ∧ r < d ∧ xs'.length = xs.length ∧ M.Lim xs' ∧ M.val xs = d * M.val xs' + r ∧
    UM w' g pre xs' post ∧ w.grownBy w' (some g)

theorem run_append_nil {P : Program} (w : World) (base : Nat) (t ty e : TypeId) (i : TypeInfo) (size : Nat) (ht : P.underlying t = some (.slice e)) (hi : P.info? e = some i) (v : Value) (n : Nat) (xs : List Value) (hown : w.ownsRow base e size v n xs) (c : Nat) :
    (Builtin.append_ #[t, t] ty #[v, .slice none 0 c]).run P w = .ok v w := by
  rcases hown.2 with ⟨rfl, rfl⟩ | ⟨g, cap, cur, rfl, _, _, hnc, _⟩
  · simp [Builtin.append_, run_underlying ht, sizeOf, typeInfo, hi, Builtin.lenOf, Builtin.firstCells]
  · simp [Builtin.append_, run_underlying ht, sizeOf, typeInfo, hi, Builtin.lenOf, Builtin.firstCells, hnc, storeCells]

/-- append of a whole number to a slice of the call's own. -/
theorem apn_arm {w : World} {ops : Array Oper} {rest : List Oper} {o : Oper} {a : Act} {Q : Exit → Act → World → Prop}
    (hgd : o.guard = none) (s x : Operand) (t : TypeId) (ho : o.op = .call { callee := .builtin .append, args := #[s, x], argTypes := #[t, t] }) (ht : Try.prog.underlying t = some (.slice 34))
    (base : Nat) (v : Value) (xs : List Int) (hs : a.eval s = v) (hown : OwnU w base v xs) (B m c : Nat) (A : Option Addr) (zs : List Int) (hx : a.eval x = .slice A m c) (hm : m = zs.length) (hr : Rd w B A zs)
    (hlen : xs.length + zs.length ≤ 1000000000000) (hbase : base ≤ w.heap.size)
    (hK : ∀ v' w', OwnU w' base v' (xs ++ zs) → w.grownBy w' v.ownBlock → wpList Try.prog ops Q rest (a.put o.dst v') w') :
    wpList Try.prog ops Q (o :: rest) a w := by
  obtain ⟨i, hi, hz0, hz1, hz2⟩ := info_parts info_u32
  subst hm
  rcases A with _ | ad
  · have hz : zs = [] := by
      rcases Nat.eq_zero_or_pos zs.length with h0 | h0
      · exact List.eq_nil_of_length_eq_zero h0
      · obtain ⟨g, o', h, _⟩ := hr (by omega); cases h
    subst hz
    have hrun := run_append_nil (P := Try.prog) w base t o.type 34 i 1 ht hi v xs.length _ hown c
    refine wpList_plain hgd fun K hK' => ?_
    unfold Oper.wp
    simp [execOp, ho, resolve, invoke, builtin, hs, hx, hrun, Result.andThen]
    exact hK' _ _ (hK v w (by simpa using hown) (World.grownBy.refl _ _))
  · refine wpList_append_own w hgd s x t ho base 34 i (.int .u32 0) 1 4 ht hi hz0 hz1 hz2 rfl (by decide) v xs.length (xs.map (Value.int .u32)) hs hown ad zs.length c (zs.map (Value.int .u32)) hx (by simp) ?_ ?_ (by unfold maxLen; omega) (by omega) hbase fun v' w' h1 h2 _ => hK v' w' ?_ h2
    · intro j u hj
      have hjl : j < zs.length := by have := (List.getElem?_eq_some_iff.1 hj).1; simpa using this
      obtain ⟨g, o', h, _, hc⟩ := hr (by omega)
      injection h with h
      subst h
      have e : ((⟨g, o', none⟩ : Addr).add j) = ⟨g, o' + j, none⟩ := by unfold Addr.add; by_cases h0 : j = 0 <;> simp [h0]
      rw [e, hc j hjl]
      rw [List.getElem?_map, List.getElem?_eq_getElem hjl] at hj
      rw [M.gd_lt hjl]; simpa using hj
    · intro u hu; obtain ⟨z, _, rfl⟩ := List.mem_map.1 hu; rfl
    · unfold OwnU
      rw [List.length_append, List.map_append]; exact h1

/-- What is answered is of the call's own: limbs in new memory, or none. -/
def GotO (xs : List Int) (w : World) (e : Ending) (w' : World) : Prop := ∃ v, e = .returned v ∧ OwnU w' w.heap.size v xs ∧ Below w.heap.size w w'

theorem own_empty (w : World) : OwnU (w.alloc (.cells #[] 34)) w.heap.size (.slice (some ⟨w.heap.size, 0, none⟩) 0 0) [] := by
  have := World.ownsRow_made (base := w.heap.size) (e := 34) (size := 1) w #[] 0 (Nat.le_refl _) (by unfold maxLen; omega) rfl
  exact this
theorem below_grown {B : Nat} {a w w' : World} {v : Value} {xs : List Int} (h : Below B a w) (ho : OwnU w B v xs) (hg : w.grownBy w' v.ownBlock) (hs : B ≤ w.heap.size) : Below B a w' :=
  h.grown hg hs (fun k e => (World.ownsRow.lt ho k e).1)

/-- What the shortest limbs of what is read are. -/
theorem trim_rd (A : Option Addr) (n c : Nat) (zs : List Int) (w w3 : World) (hr : Rd w3 w3.heap.size A zs) (hz : M.Lim zs) (hb : Below w.heap.size w w3) (en : n = zs.length) (hl : zs.length ≤ c) (hc : c ≤ 9223372036854775807) :
    Calls Try.prog 34 #[.slice A n c] w3 fun e w' => ∃ A' c', e = .returned (.slice A' (M.canon (M.val zs).toNat).length c') ∧ (M.canon (M.val zs).toNat).length ≤ c' ∧ c' ≤ 9223372036854775807 ∧ Rd w3 w3.heap.size A' (M.canon (M.val zs).toNat) ∧ Below w.heap.size w w3 ∧
      ((M.canon (M.val zs).toNat = [] ∧ A' = none ∧ c' = 0) ∨ (¬ M.canon (M.val zs).toNat = [] ∧ A' = A ∧ c' = c)) ∧ w3 = w' := by
  subst en
  refine (trimmed_any A c w3.heap.size zs w3 hr hl hc).mono ?_
  rintro e w' ⟨⟨A', c', rfl, h1⟩, rfl⟩
  have hl' := M.trim_length_le zs
  have hr' : Rd w3 w3.heap.size A (M.trim zs) := by rw [M.trim_prefix]; exact hr.take _
  rw [M.trim_eq_canon hz] at h1 hl' hr'
  refine ⟨A', c', by rw [M.trim_eq_canon hz], ?_⟩
  rcases h1 with ⟨h0, rfl, rfl⟩ | ⟨h0, rfl, rfl⟩
  · exact ⟨by rw [h0]; exact Nat.le_refl _, by omega, by rw [h0]; exact Rd.nil _ _ _, hb, .inl ⟨h0, rfl, rfl⟩, rfl⟩
  · exact ⟨by omega, hc, hr', hb, .inr ⟨h0, rfl, rfl⟩, rfl⟩

/-- What is answered: limbs, in new memory or none. -/
def Ret1 (r : List Int) (w : World) (e : Ending) (w' : World) : Prop :=
  ∃ A c, e = .returned (.slice A r.length c) ∧ r.length ≤ c ∧ c ≤ 9223372036854775807 ∧ Rd w' w'.heap.size A r ∧ Below w.heap.size w w'

theorem of_val (n : Int) (n0 : 0 ≤ n) (n1 : n ≤ 18446744073709551615) : M.Lim [n % 4294967296, n / 4294967296] ∧ M.val [n % 4294967296, n / 4294967296] = n := by
  refine ⟨M.Lim.cons (by omega) (by omega) (M.Lim.cons (by omega) (by omega) M.Lim.nil), ?_⟩
  simp only [M.val]; omega

set_option maxHeartbeats 400000 in
theorem nof_any (n : Int) (w : World) (_n0 : 0 ≤ n) (_n1 : n ≤ 18446744073709551615) :
    Calls Try.prog 26 #[.int .u64 n] w (Ret1 (M.canon n.toNat) w) := by
  have hv := of_val n _n0 _n1
  have hu := UB.new w [n % 4294967296, n / 4294967296]
  have C := trim_own w.heap.size 2 2 _ w _ hu hv.1 ((Below.refl _ _).alloc (Nat.le_refl _) _) rfl (by simp) (by omega)
  rw [hv.2] at C
  have D := hide C
  clear hv hu C
  go_enter Try.func26, Try.ntmps26
  go_wp2_with (go_at_call 34; refine D.out.mono ?_; rintro e w4 ⟨A4, c4, rfl, m1, m2, m3, m4, rfl⟩)
  go_ret
  exact ⟨A4, c4, rfl, m1, m2, m3, m4⟩

def divS (xs : List Int) (d : Int) : List Int × Int × Int := if right xs && d != 0 then (M.canon (M.val xs / d).toNat, M.val xs % d, 0) else ([], 0, 1)
def Ret3 (r : List Int × Int × Int) (w : World) (e : Ending) (w' : World) : Prop :=
  ∃ A c, e = .returned (.tuple #[.slice A r.1.length c, .int .u32 r.2.1, .int .i64 r.2.2]) ∧ r.1.length ≤ c ∧ c ≤ 9223372036854775807 ∧ Rd w' w'.heap.size A r.1 ∧ Below w.heap.size w w'

theorem ret_mid {v u : Value} {k : IntKind} {a b : Int} (h : a = b) : Ending.returned (.tuple #[v, .int k a, u]) = .returned (.tuple #[v, .int k b, u]) := by rw [h]

theorem div_parts {X d q r : Int} (_hq : 0 ≤ q) (h : X = d * q + r) (h0 : 0 ≤ r) (h1 : r < d) : X / d = q ∧ X % d = r := by
  subst h
  constructor
  · rw [Int.add_comm, Int.add_mul_ediv_left _ _ (by omega), Int.ediv_eq_zero_of_lt h0 h1]; omega
  · rw [Int.add_comm, Int.add_mul_emod_self_left, Int.emod_eq_of_lt h0 h1]

end Go.Proofs.Ytbimhacggbgcoaa
