/- Part of the proofs over this program: CycleR. -/
import Derived.Test.YtajcegofflmoeaaGreatDoorKD
namespace Go.Proofs.YtajcegofflmoeaaGreatDoor
set_option maxRecDepth 100000

namespace Gm
theorem pos_inj {o : List Int} {j k : Int} (hj : j ∈ o) (hk : k ∈ o) (h : pos o j = pos o k) : j = k := by
  have h1 := pos_lt hj
  have h2 := pos_lt hk
  have e1 := get_pos hj (by omega)
  have e2 := get_pos hk (by omega)
  refine e1.symm.trans (Eq.trans ?_ e2)
  simp only [h]
theorem re1_neg {o : List Int} {z : Int} (hz : z < 0) : re1 o z = -1 - pos o (-1 - z) := by unfold re1; rw [if_pos hz]
theorem re1_lt {o : List Int} {z : Int} (hz : z < 0) (h : -1 - z ∈ o) : re1 o z < 0 := by rw [re1_neg hz]; have := pos_lt h; omega
theorem re1_ge {o : List Int} {z : Int} (hz : ¬ z < 0) : re1 o z = z := by unfold re1; rw [if_neg hz]
theorem nl_red {G : Gr} {j : Int} (hp : Gn false G.rs j) : Rc G j → Gn false (reduce G).rs (pos (olds G) j) := by
  induction hp with
  | mk x hx ht hn ih =>
    intro hr
    have ha : Al true G.rs x.r := ⟨fun _ _ _ => rfl, fun z hz h0 => (hn z hz h0).tms⟩
    have hk : x ∈ krs G := mem_krs.2 ⟨hx, hr, ha⟩
    have hm : re (olds G) x ∈ (reduce G).rs := List.mem_map_of_mem hk
    refine Gn.of hm ⟨fun z hz h0 => ?_, fun z hz h0 => ?_⟩
    · obtain ⟨y, hy, rfl⟩ := List.mem_map.1 hz
      by_cases h1 : y < 0
      · have := re1_lt h1 (use_sym hk hy h1); omega
      · exact ht y hy (by omega)
    · obtain ⟨y, hy, rfl⟩ := List.mem_map.1 hz
      by_cases h1 : y < 0
      · rw [re1_neg h1, show -1 - (-1 - pos (olds G) (-1 - y)) = pos (olds G) (-1 - y) by omega]
        exact ih y hy h1 (.on x hx hr ha y hy h1)
      · rw [re1_ge h1] at h0; omega
theorem nl_back {G : Gr} {i : Int} (hp : Gn false (reduce G).rs i) : ∀ j ∈ olds G, pos (olds G) j = i → Gn false G.rs j := by
  induction hp with
  | mk y hy ht hn ih =>
    intro j hj e
    obtain ⟨x, hk, rfl⟩ := List.mem_map.1 hy
    obtain rfl := pos_inj hj (use_left hk) e
    refine Gn.of (mem_krs.1 hk).1 ⟨fun z hz h0 => ?_, fun z hz h0 => ?_⟩
    · have := ht z (List.mem_map.2 ⟨z, hz, re1_ge (by omega)⟩) h0
      exact this
    · have h1 := use_sym hk hz h0
      refine ih (re1 (olds G) z) (List.mem_map_of_mem hz) (re1_lt h0 h1) _ h1 ?_
      rw [re1_neg h0]; omega
theorem nu_red {G : Gr} {p : List Int} (h : ∀ z ∈ p, z < 0 → -1 - z ∈ olds G) : Nu (reduce G) (p.map (re1 (olds G))) ↔ Nu G p := by
  constructor
  · intro hn
    refine ⟨fun z hz h0 => hn.1 z (List.mem_map.2 ⟨z, hz, re1_ge (by omega)⟩) h0, fun z hz h0 => ?_⟩
    have h1 := h z hz h0
    refine nl_back (hn.2 _ (List.mem_map_of_mem hz) (re1_lt h0 h1)) _ h1 ?_
    rw [re1_neg h0]; omega
  · intro hn
    refine ⟨fun z hz h0 => ?_, fun z hz h0 => ?_⟩
    · obtain ⟨y, hy, rfl⟩ := List.mem_map.1 hz
      by_cases h1 : y < 0
      · have := re1_lt h1 (h y hy h1); omega
      · exact hn.1 y hy (by omega)
    · obtain ⟨y, hy, rfl⟩ := List.mem_map.1 hz
      by_cases h1 : y < 0
      · rw [re1_neg h1, show -1 - (-1 - pos (olds G) (-1 - y)) = pos (olds G) (-1 - y) by omega]
        exact nl_red (hn.2 y hy h1) (olds_in (h y hy h1)).1
      · rw [re1_ge h1] at h0; omega
theorem st_red {G : Gr} {i j : Int} (h : St G i j) (hi : i ∈ olds G) : j ∈ olds G ∧ St (reduce G) (pos (olds G) i) (pos (olds G) j) := by
  have hu := h.use (olds_in hi).1
  obtain ⟨x, hx, rfl, ha, p, z, q, e, hz, rfl, hp, hq⟩ := h
  have hk : x ∈ krs G := mem_krs.2 ⟨hx, (olds_in hi).1, ha⟩
  have hs : ∀ y ∈ x.r, y < 0 → -1 - y ∈ olds G := fun y hy h0 => use_sym hk hy h0
  have hj := hs z (by rw [e]; simp) hz
  refine ⟨hj, re (olds G) x, List.mem_map_of_mem hk, rfl, al_red hk, p.map (re1 (olds G)), re1 (olds G) z, q.map (re1 (olds G)), ?_, re1_lt hz hj, ?_, ?_, ?_⟩
  · show x.r.map (re1 (olds G)) = _
    rw [e]; simp
  · rw [re1_neg hz]; omega
  · exact (nu_red fun y hy h0 => hs y (by rw [e]; simp [hy]) h0).2 hp
  · exact (nu_red fun y hy h0 => hs y (by rw [e]; simp [hy]) h0).2 hq
theorem st_back {G : Gr} {a b : Int} (h : St (reduce G) a b) : ∀ i ∈ olds G, pos (olds G) i = a → ∃ j ∈ olds G, pos (olds G) j = b ∧ St G i j := by
  intro i hi e
  obtain ⟨y, hy, rfl, _, p', z', q', e2, hz, rfl, hp, hq⟩ := h
  obtain ⟨x, hk, rfl⟩ := List.mem_map.1 hy
  obtain rfl := pos_inj hi (use_left hk) e
  obtain ⟨hx, hr, ha⟩ := mem_krs.1 hk
  have hs : ∀ y ∈ x.r, y < 0 → -1 - y ∈ olds G := fun y hy h0 => use_sym hk hy h0
  have e3 : x.r.map (re1 (olds G)) = p' ++ z' :: q' := e2
  obtain ⟨p, t, e4, rfl, e5⟩ := List.map_eq_append_iff.1 e3
  obtain ⟨z, q, rfl, rfl, rfl⟩ := List.map_eq_cons_iff.1 e5
  have h0 : z < 0 := by
    rcases Int.lt_or_le z 0 with h | h
    · exact h
    · rw [re1_ge (by omega)] at hz; exact hz
  have hj := hs z (by rw [e4]; simp) h0
  refine ⟨-1 - z, hj, by rw [re1_neg h0]; omega, x, hx, rfl, ha, p, z, q, e4, h0, rfl, ?_, ?_⟩
  · exact (nu_red fun y hy h0 => hs y (by rw [e4]; simp [hy]) h0).1 hp
  · exact (nu_red fun y hy h0 => hs y (by rw [e4]; simp [hy]) h0).1 hq
theorem cm_red {G : Gr} {i j : Int} (h : Cm G i j) : i ∈ olds G → j ∈ olds G ∧ Cm (reduce G) (pos (olds G) i) (pos (olds G) j) := by
  induction h with
  | one h => intro hi; have := st_red h hi; exact ⟨this.1, .one this.2⟩
  | on h _ ih => intro hi; have h1 := st_red h hi; have h2 := ih h1.1; exact ⟨h2.1, .on h1.2 h2.2⟩
theorem cm_back {G : Gr} {a b : Int} (h : Cm (reduce G) a b) : ∀ i ∈ olds G, pos (olds G) i = a → ∃ j ∈ olds G, pos (olds G) j = b ∧ Cm G i j := by
  induction h with
  | one h => intro i hi e; obtain ⟨j, h1, h2, h3⟩ := st_back h i hi e; exact ⟨j, h1, h2, .one h3⟩
  | on h _ ih =>
    intro i hi e
    obtain ⟨k, h1, h2, h3⟩ := st_back h i hi e
    obtain ⟨j, h4, h5, h6⟩ := ih k h1 h2
    exact ⟨j, h4, h5, .on h3 h6⟩
theorem endl_red (G : Gr) : Endl (reduce G) ↔ Endl G := by
  constructor
  · rintro ⟨a, hc, _, _⟩
    have hl := (hc.lin (red_lin G) (red_sin G)).1
    rw [red_ns] at hl
    have hi : (olds G)[a.toNat]'(by omega) ∈ olds G := List.getElem_mem _
    have e := pos_get (olds_nodup G) a.toNat (by omega)
    obtain ⟨j, h1, h2, h3⟩ := cm_back hc _ hi (by rw [e]; omega)
    obtain rfl := pos_inj h1 hi (by rw [h2, e]; omega)
    exact ⟨_, h3, (olds_in hi).2, (olds_in hi).1⟩
  · rintro ⟨i, hc, hp, hr⟩
    exact ⟨_, (cm_red hc (olds_of hr hp)).2, gn_red hp hr, rc_red hr⟩
theorem red_cyc (G : Gr) : Endl (reduce G) ↔ cyc (reduce G) ≠ 0 := by
  constructor
  · rintro ⟨i, hc, _⟩ h
    have hl := (hc.lin (red_lin G) (red_sin G)).1
    have : (cyc (reduce G)).testBit i.toNat = true := (mask_bit _ _ _).2 ⟨by omega, by rw [Int.toNat_of_nonneg hl.1]; exact hc⟩
    rw [h] at this
    simp at this
  · intro h
    obtain ⟨i, hi⟩ := Nat.exists_testBit_of_ne_zero h
    have h2 := (mask_bit _ _ i).1 hi
    have h3 := red_all h2.1
    exact ⟨i, h2.2, h3.1, h3.2⟩

/-! ### all to which one comes, in rounds -/
def rc1 (st : List Nat) (r i : Nat) : Nat := if r.testBit i = true then r ||| st.getD i 0 else r
def rcP (st : List Nat) (n r : Nat) : Nat := (List.range n).foldl (rc1 st) r
def rcN (st : List Nat) (n : Nat) : Nat → Nat → Nat
  | 0, r => r
  | m + 1, r => rcP st n (rcN st n m r)
def bs (n r : Nat) : List Bool := (List.range n).map r.testBit
theorem bs_get {n r i : Nat} (h : i < n) : (bs n r).getD i false = r.testBit i := by simp [bs, h]
theorem bs_len (n r : Nat) : (bs n r).length = n := by simp [bs]
def rcBo (st : List Nat) (n : Nat) (s : List Bool) (i : Nat) : List Bool := if s.getD i false = true then (List.range n).map fun j => s.getD j false || (st.getD i 0).testBit j else s
theorem rcBo_of {st : List Nat} {n r i : Nat} (hi : i < n) : bs n (rc1 st r i) = rcBo st n (bs n r) i := by
  unfold rc1 rcBo
  rw [bs_get hi]
  split
  · refine List.map_congr_left fun j hj => ?_
    rw [bs_get (List.mem_range.1 hj), Nat.testBit_or]
  · rfl
theorem rcBo_len {st : List Nat} {n i : Nat} {s : List Bool} (h : s.length = n) : (rcBo st n s i).length = n := by
  unfold rcBo; split
  · simp
  · exact h
theorem rcBo_get {st : List Nat} {n i j : Nat} {s : List Bool} (h : s.length = n) (k : s.getD j false = true) : (rcBo st n s i).getD j false = true := by
  unfold rcBo; split
  · have hj : j < n := by
      rw [← h]
      rcases Nat.lt_or_ge j s.length with h1 | h1
      · exact h1
      · rw [List.getD_eq_getElem?_getD, List.getElem?_eq_none h1] at k; cases k
    simp [hj]
    exact .inl (by simpa using k)
  · exact k
def rcT (st : List Nat) (n : Nat) (s : List Bool) : List Bool := if s.length = n then (List.range n).foldl (rcBo st n) s else s
theorem rcF_le {st : List Nat} {n : Nat} : ∀ (xs : List Nat) (s : List Bool), s.length = n → Le s (xs.foldl (rcBo st n) s) ∧ (xs.foldl (rcBo st n) s).length = n
  | [], s, h => ⟨Le.refl s, h⟩
  | x :: xs, s, h => by
    have h1 := rcF_le (st := st) xs (rcBo st n s x) (rcBo_len h)
    exact ⟨(Le.of (by rw [rcBo_len h, h]) fun i e => rcBo_get h e).trans h1.1, h1.2⟩
theorem rcT_le (st : List Nat) (n : Nat) (s : List Bool) : Le s (rcT st n s) := by
  unfold rcT; split
  · exact (rcF_le _ s (by assumption)).1
  · exact Le.refl s
theorem rcF_of {st : List Nat} {n : Nat} : ∀ (xs : List Nat) (r : Nat), (∀ x ∈ xs, x < n) → bs n (xs.foldl (rc1 st) r) = xs.foldl (rcBo st n) (bs n r)
  | [], _, _ => rfl
  | x :: xs, r, h => by
    rw [List.foldl_cons, List.foldl_cons, rcF_of xs _ (fun y hy => h y (List.mem_cons_of_mem _ hy)), rcBo_of (h x (List.mem_cons_self ..))]
theorem rcN_of (st : List Nat) (n : Nat) : ∀ (m r : Nat), bs n (rcN st n m r) = times (rcT st n) m (bs n r)
  | 0, _ => rfl
  | m + 1, r => by
    rw [rcN, times, ← rcN_of st n m r]
    unfold rcP rcT
    rw [if_pos (bs_len n _), rcF_of _ _ (fun x hx => List.mem_range.1 hx)]
theorem rcF_rest {st : List Nat} {n : Nat} : ∀ (xs : List Nat) (s : List Bool), s.length = n → xs.foldl (rcBo st n) s = s → ∀ x ∈ xs, rcBo st n s x = s
  | [], _, _, _, _, hx => by cases hx
  | y :: ys, s, h, e, x, hx => by
    rw [List.foldl_cons] at e
    have h2 := (rcF_le (st := st) ys (rcBo st n s y) (rcBo_len h)).1
    rw [e] at h2
    have h3 : Le s (rcBo st n s y) := Le.of (by rw [rcBo_len h, h]) fun i k => rcBo_get h k
    have h1 : rcBo st n s y = s := h2.anti h3
    rw [h1] at e
    rcases List.mem_cons.1 hx with rfl | hx
    · exact h1
    · exact rcF_rest ys s h e x hx
theorem rcN_snd {G : Gr} {k : Nat} (n : Nat) : ∀ (xs : List Nat) (r : Nat), (∀ j, r.testBit j = true → Cm G (k : Int) (j : Int)) → ∀ j, (xs.foldl (rc1 (stp G)) r).testBit j = true → Cm G (k : Int) (j : Int)
  | [], _, h => h
  | x :: xs, r, h => by
    refine rcN_snd n xs _ fun j hj => ?_
    unfold rc1 at hj
    split at hj
    · rw [Nat.testBit_or, Bool.or_eq_true] at hj
      rcases hj with hj | hj
      · exact h j hj
      · rename_i hx
        exact (h x hx).trans (.one ((stp_bit G x j).1 hj).2.2)
    · exact h j hj
theorem rcN_bit {G : Gr} (hok : Ok G) {k : Nat} (hk : k < G.ns.length) (j : Nat) : (rcN (stp G) G.ns.length G.ns.length ((stp G).getD k 0)).testBit j = true ↔ Cm G (k : Int) (j : Int) := by
  constructor
  · have : ∀ m, ∀ j, (rcN (stp G) G.ns.length m ((stp G).getD k 0)).testBit j = true → Cm G (k : Int) (j : Int) := by
      intro m
      induction m with
      | zero => intro j hj; exact .one ((stp_bit G k j).1 hj).2.2
      | succ m ih => exact rcN_snd G.ns.length _ _ ih
    exact this _ j
  · intro hc
    obtain ⟨S, hS⟩ : ∃ S, S = rcN (stp G) G.ns.length G.ns.length ((stp G).getD k 0) := ⟨_, rfl⟩
    have hfix := times_fix (rcT_le (stp G) G.ns.length) (bs G.ns.length ((stp G).getD k 0))
    rw [bs_len, ← rcN_of, ← hS] at hfix
    unfold rcT at hfix
    rw [if_pos (bs_len _ _)] at hfix
    have hrest := rcF_rest _ _ (bs_len _ _) hfix
    have h0 : ∀ i, ((stp G).getD k 0).testBit i = true → S.testBit i = true := fun i hi => by
      have hi2 := (stp_bit G k i).1 hi
      have h1 := (times_le (rcT_le (stp G) G.ns.length) G.ns.length (bs G.ns.length ((stp G).getD k 0))).get i (by rw [bs_get hi2.2.1]; exact hi)
      rw [← rcN_of, ← hS, bs_get hi2.2.1] at h1
      exact h1
    have hstep : ∀ i l : Nat, i < G.ns.length → S.testBit i = true → St G (i : Int) (l : Int) → S.testBit l = true := fun i l hi h1 h2 => by
      have hl := (h2.lin hok.lin hok.sin).2
      have h3 := hrest i (List.mem_range.2 hi)
      have h4 := congrArg (fun s => s.getD l false) h3
      simp only [rcBo, bs_get hi, h1, if_true] at h4
      rw [bs_get (by omega)] at h4
      rw [← h4]
      have hl2 : l < G.ns.length := by omega
      simp [hl2]
      exact .inr (by have := (stp_bit G i l).2 ⟨hi, hl2, h2⟩; simpa using this)
    have key : ∀ {a b : Int}, Cm G a b → ∀ i l : Nat, (i : Int) = a → (l : Int) = b → S.testBit i = true → i < G.ns.length → S.testBit l = true := by
      intro a b h
      induction h with
      | one h => intro i l e1 e2 hi hn; subst e1 e2; exact hstep i l hn hi h
      | on h h2 ih =>
        intro i l e1 e2 hi hn
        rename_i a1 k1 b1
        have hl := (h.lin hok.lin hok.sin).2
        obtain ⟨k2, rfl⟩ := Int.eq_ofNat_of_zero_le hl.1
        subst e1
        exact ih k2 l rfl e2 (hstep i k2 hn hi h) (by omega)
    rw [← hS]
    cases hc with
    | one h => exact h0 j ((stp_bit G k j).2 ⟨hk, by have := (h.lin hok.lin hok.sin).2; omega, h⟩)
    | on h h2 =>
      have hl := (h.lin hok.lin hok.sin).2
      rename_i k1
      obtain ⟨k2, rfl⟩ := Int.eq_ofNat_of_zero_le hl.1
      exact key h2 k2 j rfl rfl (h0 k2 ((stp_bit G k k2).2 ⟨hk, by omega, h⟩)) (by omega)
end Gm
end Go.Proofs.YtajcegofflmoeaaGreatDoor
