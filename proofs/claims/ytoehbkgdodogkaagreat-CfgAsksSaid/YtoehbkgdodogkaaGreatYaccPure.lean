/- Pure: what is in a source stands in its tokens, in order: the names and literals, and nothing else. -/
import Derived.Test.YtoehbkgdodogkaaGreatYaccSource
import Derived.Test.YtoehbkgdodogkaaGreatScanL
namespace Go.Proofs.YtoehbkgdodogkaaGreat

namespace Y
theorem take_split {ks : List Int} {ts : List Tok} {t : Tok} {r : List Tok} (h : take ks ts = .ok t r) : ts = [t] ++ r := (take_ok h).1
theorem notref {ks : List Int} {t : Tok} (h : ks.contains t.k = true) (hk : ∀ z ∈ ks, z ≠ 1 ∧ z ≠ 2) : isRef t = false := by
  rcases hq : isRef t with _ | _
  · rfl
  · exfalso
    unfold isRef at hq
    rw [List.contains_iff_mem] at h hq
    have := hk _ h
    simp at hq
    omega
theorem isref {ks : List Int} {t : Tok} (h : ks.contains t.k = true) (hk : ∀ z ∈ ks, z = 1 ∨ z = 2) : isRef t = true := by
  unfold isRef
  rw [List.contains_iff_mem] at h ⊢
  have := hk _ h
  simp
  omega
theorem span_eq (ts : List Tok) : ts = ts.takeWhile isRef ++ ts.dropWhile isRef := (List.takeWhile_append_dropWhile).symm
theorem span_filter : ∀ ts : List Tok, (ts.takeWhile isRef).filter isRef = ts.takeWhile isRef
  | [] => rfl
  | t :: r => by
    rw [List.takeWhile_cons]
    rcases h : isRef t with _ | _
    · rfl
    · simp only [if_true]
      rw [List.filter_cons_of_pos h, span_filter r]
/-- What a declaration takes. -/
theorem decl_split {ts r : List Tok} {d : Dcl} (h : decl ts = .ok d r) : ∃ u, ts = u ++ r ∧ u.filter isRef = d.ns ∧ 1 ≤ u.length := by
  unfold decl at h
  obtain ⟨t, m, h1, h2⟩ := bind_eq_ok h
  have e1 := take_split h1
  have n1 := notref (take_ok h1).2 (by decide)
  split at h2
  · obtain ⟨n, m2, h3, h4⟩ := bind_eq_ok h2
    injection h4 with h5 h6
    subst h5 h6
    have e2 := take_split h3
    have n2 := isref (take_ok h3).2 (by decide)
    exact ⟨[t] ++ [n], by rw [e1, e2]; simp, by simp [n1, n2], by simp⟩
  · obtain ⟨n, m2, h3, h4⟩ := bind_eq_ok h2
    injection h4 with h5 h6
    subst h5 h6
    have e2 := take_split h3
    have n2 := isref (take_ok h3).2 (by decide)
    refine ⟨[t] ++ ([n] ++ m2.takeWhile isRef), ?_, ?_, by simp⟩
    · rw [e1, e2]
      simp only [List.append_assoc]
      rw [← span_eq m2]
    · simp only [List.singleton_append, List.filter_cons, n1, n2]
      simp [span_filter]
theorem decls_split : ∀ (f : Nat) (acc : List Dcl) (ts : List Tok) (ds : List Dcl) (r : List Tok), decls f acc ts = .ok ds r → ∃ u ds', ts = u ++ r ∧ ds = acc ++ ds' ∧ u.filter isRef = ds'.flatMap Dcl.refs ∧ ds'.length ≤ u.length
  | 0, acc, ts, ds, r, h => by injection h with h1 h2; subst h1 h2; exact ⟨[], [], rfl, by simp, rfl, Nat.le_refl _⟩
  | f + 1, acc, ts, ds, r, h => by
    rw [decls] at h
    split at h
    · injection h with h1 h2; subst h1 h2; exact ⟨[], [], rfl, by simp, rfl, Nat.le_refl _⟩
    · obtain ⟨d, m, h1, h2⟩ := bind_eq_ok h
      obtain ⟨u1, e1, f1, l1⟩ := decl_split h1
      obtain ⟨u2, ds', e2, g2, f2, l2⟩ := decls_split f _ _ _ _ h2
      exact ⟨u1 ++ u2, d :: ds', by rw [e1, e2, List.append_assoc], by rw [g2]; simp, by rw [List.filter_append, f1, f2]; simp [Dcl.refs], by simp; omega⟩
/-- A rule's own tokens. -/
structure RuleIn (u : List Tok) (left : Tok) (p : Prd) : Prop where
  l : p.l = left
  f : u.filter isRef = p.refs
  p : ∀ t, p.p = some t → t ∈ u ∧ isRef t = true
theorem rule_split {left : Tok} {ts r : List Tok} {p : Prd} (h : rule left ts = .ok p r) : ∃ u, ts = u ++ r ∧ RuleIn u left p := by
  unfold rule rule2 at h
  split at h
  · obtain ⟨t, m, h1, h2⟩ := bind_eq_ok h
    obtain ⟨q, m2, h3, h4⟩ := bind_eq_ok h2
    injection h4 with h5 h6
    subst h5 h6
    have e1 := take_split h1
    have n1 := notref (take_ok h1).2 (by decide)
    have e2 := take_split h3
    have n2 := isref (take_ok h3).2 (by decide)
    refine ⟨ts.takeWhile isRef ++ ([t] ++ [q]), ?_, rfl, ?_, ?_⟩
    · conv => lhs; rw [span_eq ts, e1, e2]
      simp
    · rw [List.filter_append, span_filter]
      simp [n1, n2, Prd.refs]
    · intro t' ht'
      injection ht' with ht'
      subst ht'
      exact ⟨by simp, n2⟩
  · injection h with h5 h6
    subst h5 h6
    exact ⟨ts.takeWhile isRef, span_eq ts, rfl, by rw [span_filter]; simp [Prd.refs], fun t ht => by cases ht⟩
/-- Rules of one group, in order. -/
structure AltsIn (u : List Tok) (left : Tok) (ps : List Prd) : Prop where
  l : ∀ p ∈ ps, p.l = left
  f : u.filter isRef = ps.flatMap Prd.refs
  p : ∀ p ∈ ps, ∀ t, p.p = some t → t ∈ u ∧ isRef t = true
  n : ps.length ≤ u.length
theorem alts_split (left : Tok) : ∀ (f : Nat) (acc : List Prd) (ts : List Tok) (ps : List Prd) (r : List Tok), alts f left acc ts = .ok ps r → ∃ u ps', ts = u ++ r ∧ ps = acc ++ ps' ∧ AltsIn u left ps' ∧ (f ≠ 0 → ps' ≠ [])
  | 0, acc, ts, ps, r, h => by injection h with h1 h2; subst h1 h2; exact ⟨[], [], rfl, by simp, ⟨fun p hp => absurd hp (by simp), rfl, fun p hp => absurd hp (by simp), Nat.le_refl _⟩, fun h => absurd rfl h⟩
  | f + 1, acc, ts, ps, r, h => by
    rw [alts] at h
    obtain ⟨p, m, h1, h2⟩ := bind_eq_ok h
    obtain ⟨t, m2, h3, h4⟩ := bind_eq_ok h2
    obtain ⟨u1, e1, i1⟩ := rule_split h1
    have e2 := take_split h3
    have n2 := notref (take_ok h3).2 (by decide)
    split at h4
    · obtain ⟨u3, ps', e3, g3, i3, _⟩ := alts_split left f _ _ _ _ h4
      refine ⟨u1 ++ ([t] ++ u3), p :: ps', by rw [e1, e2, e3]; simp, by rw [g3]; simp, ⟨?_, ?_, ?_, ?_⟩, fun _ => by simp⟩
      · intro q hq
        rcases List.mem_cons.1 hq with rfl | hq
        · exact i1.l
        · exact i3.l q hq
      · rw [List.filter_append, i1.f, List.filter_append, i3.f]; simp [n2]
      · intro q hq t' ht'
        rcases List.mem_cons.1 hq with rfl | hq
        · have := i1.p t' ht'; exact ⟨by simp [this.1], this.2⟩
        · have := i3.p q hq t' ht'; exact ⟨by simp [this.1], this.2⟩
      · have := i3.n; simp; omega
    · injection h4 with h5 h6
      subst h5 h6
      refine ⟨u1 ++ [t], [p], by rw [e1, e2]; simp, rfl, ⟨?_, ?_, ?_, by simp⟩, fun _ => by simp⟩
      · intro q hq; rw [List.mem_singleton] at hq; subst hq; exact i1.l
      · rw [List.filter_append, i1.f]; simp [n2]
      · intro q hq t' ht'
        rw [List.mem_singleton] at hq
        subst hq
        have := i1.p t' ht'
        exact ⟨by simp [this.1], this.2⟩
theorem group_split {acc ps : List Prd} {ts r : List Tok} (h : group acc ts = .ok ps r) : ∃ left u ps', ts = ([left] ++ u) ++ r ∧ ps = acc ++ ps' ∧ isRef left = true ∧ AltsIn u left ps' ∧ ps' ≠ [] := by
  unfold group at h
  obtain ⟨left, m, h1, h2⟩ := bind_eq_ok h
  obtain ⟨t, m2, h3, h4⟩ := bind_eq_ok h2
  have e1 := take_split h1
  have n1 := isref (take_ok h1).2 (by decide)
  have e2 := take_split h3
  have n2 := notref (take_ok h3).2 (by decide)
  obtain ⟨u3, ps', e3, g3, i3, n3⟩ := alts_split left _ _ _ _ _ h4
  refine ⟨left, [t] ++ u3, ps', by rw [e1, e2, e3]; simp, g3, n1, ⟨i3.l, ?_, ?_, ?_⟩, n3 (by omega)⟩
  · rw [List.filter_append, i3.f]; simp [n2]
  · intro q hq t' ht'
    have := i3.p q hq t' ht'
    exact ⟨by simp [this.1], this.2⟩
  · have := i3.n; simp; omega
/-- Rules that all have one left side. -/
theorem prefs_same {left : Tok} : ∀ (ps : List Prd), (∀ p ∈ ps, p.l = left) → prefs (some left.o) ps = ps.flatMap Prd.refs
  | [], _ => rfl
  | p :: r, h => by
    have hp := h p (by simp)
    rw [prefs, hp, if_pos rfl, prefs_same r (fun q hq => h q (by simp [hq]))]
    simp
theorem prefs_app {left : Tok} : ∀ (ps rs : List Prd) (q : Option Nat), ps ≠ [] → (∀ p ∈ ps, p.l = left) → q ≠ some left.o → prefs q (ps ++ rs) = left :: ps.flatMap Prd.refs ++ prefs (some left.o) rs
  | [], _, _, h, _, _ => absurd rfl h
  | p :: r, rs, q, _, h, hq => by
    have hp := h p (by simp)
    rw [List.cons_append, prefs, hp, if_neg hq]
    cases r with
    | nil => simp
    | cons x y =>
      have hall : ∀ p ∈ x :: y, p.l = left := fun z hz => h z (by simp only [List.mem_cons] at hz ⊢; exact .inr hz)
      have : ∀ (zs : List Prd), (∀ p ∈ zs, p.l = left) → prefs (some left.o) (zs ++ rs) = zs.flatMap Prd.refs ++ prefs (some left.o) rs := by
        intro zs
        induction zs with
        | nil => intro _; rfl
        | cons a b ih =>
          intro hz
          rw [List.cons_append, prefs, hz a (by simp), if_pos rfl, ih (fun w hw => hz w (by simp [hw]))]
          simp
      rw [this _ hall]
      simp
/-- Rules of many groups: the left ones differ, for their places do. -/
theorem groups_split : ∀ (f : Nat) (acc : List Prd) (ts : List Tok) (ps : List Prd) (r : List Tok), groups f acc ts = .ok ps r → ts.Pairwise (fun a b => a.o < b.o) → ∀ q : Option Nat, (∀ t ∈ ts, q ≠ some t.o) →
    ∃ u ps', ts = u ++ r ∧ ps = acc ++ ps' ∧ prefs q ps' = u.filter isRef ∧ (∀ p ∈ ps', p.l ∈ u ∧ isRef p.l = true ∧ ∀ t, p.p = some t → t ∈ u ∧ isRef t = true) ∧ ps'.length ≤ u.length
  | 0, acc, ts, ps, r, h, _, q, _ => by injection h with h1 h2; subst h1 h2; exact ⟨[], [], rfl, by simp, rfl, fun p hp => absurd hp (by simp), Nat.le_refl _⟩
  | f + 1, acc, ts, ps, r, h, hpw, q, hq => by
    rw [groups] at h
    split at h
    · obtain ⟨ps1, m, h1, h2⟩ := bind_eq_ok h
      obtain ⟨left, u1, ps', e1, g1, n1, i1, hne⟩ := group_split h1
      have hpm : m.Pairwise (fun a b => a.o < b.o) := by rw [e1] at hpw; exact (List.pairwise_append.1 hpw).2.1
      have hlm : ∀ t ∈ m, some left.o ≠ some t.o := by
        intro t ht e
        rw [e1] at hpw
        have := (List.pairwise_append.1 hpw).2.2 left (by simp) t ht
        injection e with e
        omega
      obtain ⟨u2, ps2, e2, g2, f2, k2, l2⟩ := groups_split f _ _ _ _ h2 hpm (some left.o) hlm
      refine ⟨([left] ++ u1) ++ u2, ps' ++ ps2, by rw [e1, e2]; simp, by rw [g2, g1, List.append_assoc], ?_, ?_, ?_⟩
      · rw [prefs_app ps' ps2 q hne i1.l (hq left (by rw [e1]; simp)), f2, List.filter_append, List.filter_append, i1.f]
        simp [n1]
      · intro p hp
        rcases List.mem_append.1 hp with hp | hp
        · have hl := i1.l p hp
          refine ⟨by rw [hl]; simp, by rw [hl]; exact n1, fun t ht => ?_⟩
          have := i1.p p hp t ht
          exact ⟨by simp [this.1], this.2⟩
        · have := k2 p hp
          exact ⟨by simp [this.1], this.2.1, fun t ht => ⟨by simp [(this.2.2 t ht).1], (this.2.2 t ht).2⟩⟩
      · have := i1.n; simp; omega
    · injection h with h1 h2; subst h1 h2; exact ⟨[], [], rfl, by simp, rfl, fun p hp => absurd hp (by simp), Nat.le_refl _⟩

/-- What is in a source. -/
structure SourceIn (xs : List Tok) (s : List Dcl × List Prd) : Prop where
  l : listed s.1 s.2 = xs.filter isRef
  d : s.1.length ≤ xs.length
  p : s.2.length ≤ xs.length
  n : s.2.length ≠ 0
  i : ∀ p ∈ s.2, p.l ∈ xs ∧ isRef p.l = true ∧ ∀ t, p.p = some t → t ∈ xs ∧ isRef t = true
theorem tail_split {ts r : List Tok} {v : Unit} (h : tail ts = .ok v r) : ∃ u, ts = u ++ r ∧ u.filter isRef = [] ∧ r = [] := by
  have t2 : ∀ {ts r : List Tok} {v : Unit}, tail2 ts = .ok v r → ts = [] ∧ r = [] := by
    intro ts r v h
    unfold tail2 at h
    split at h
    · rename_i h0
      injection h with _ h2
      have := List.eq_nil_of_length_eq_zero h0
      exact ⟨this, by rw [← h2, this]⟩
    · obtain ⟨t, m, h1, _⟩ := bind_eq_ok h
      have := (take_ok h1).2
      simp at this
  unfold tail at h
  split at h
  · obtain ⟨t, m, h1, h2⟩ := bind_eq_ok h
    have e1 := take_split h1
    have n1 := notref (take_ok h1).2 (by decide)
    obtain ⟨e2, e3⟩ := t2 h2
    exact ⟨[t], by rw [e1, e2, e3], by simp [n1], e3⟩
  · obtain ⟨e2, e3⟩ := t2 h
    exact ⟨[], by rw [e2, e3]; rfl, rfl, e3⟩
theorem source_in {xs r : List Tok} {s : List Dcl × List Prd} (h : source xs = .ok s r) (hpw : xs.Pairwise (fun a b => a.o < b.o)) : SourceIn xs s := by
  unfold source at h
  obtain ⟨ds, m1, h1, h⟩ := bind_eq_ok h
  obtain ⟨t9, m2, h2, h⟩ := bind_eq_ok h
  obtain ⟨ps1, m3, h3, h⟩ := bind_eq_ok h
  obtain ⟨ps, m4, h4, h⟩ := bind_eq_ok h
  obtain ⟨v, m5, h5, h⟩ := bind_eq_ok h
  injection h with h6 h7
  subst h6 h7
  obtain ⟨u1, ds', e1, g1, f1, l1⟩ := decls_split _ _ _ _ _ h1
  have e2 := take_split h2
  have n2 := notref (take_ok h2).2 (by decide)
  obtain ⟨left, u3, ps', e3, g3, n3, i3, hne⟩ := group_split h3
  have hx : xs = u1 ++ ([t9] ++ (([left] ++ u3) ++ m3)) := by rw [e1, e2, e3]
  have hp3 : m3.Pairwise (fun a b => a.o < b.o) := by
    rw [hx] at hpw
    exact (List.pairwise_append.1 (List.pairwise_append.1 (List.pairwise_append.1 hpw).2.1).2.1).2.1
  have hlm : ∀ t ∈ m3, some left.o ≠ some t.o := by
    intro t ht e
    rw [hx] at hpw
    have := (List.pairwise_append.1 (List.pairwise_append.1 (List.pairwise_append.1 hpw).2.1).2.1).2.2 left (by simp) t ht
    injection e with e
    omega
  obtain ⟨u4, ps2, e4, g4, f4, k4, l4⟩ := groups_split _ _ _ _ _ h4 hp3 (some left.o) hlm
  obtain ⟨u5, e5, f5, e6⟩ := tail_split h5
  have hx2 : xs = u1 ++ ([t9] ++ (([left] ++ u3) ++ (u4 ++ u5))) := by rw [hx, e4, e5, e6, List.append_nil]
  have hps : ps = ps' ++ ps2 := by rw [g4, g3]; simp
  have hds : ds = ds' := by rw [g1]; simp
  refine ⟨?_, ?_, ?_, ?_, ?_⟩
  · simp only
    rw [hx2]
    unfold listed
    rw [hps, hds, prefs_app ps' ps2 none hne i3.l (by simp), f4]
    simp only [List.filter_append, f1, f5, i3.f]
    simp [n2, n3]
  · simp only
    rw [hx2, hds]; simp; omega
  · simp only
    have := i3.n
    rw [hx2, hps]; simp; omega
  · simp only
    rw [hps]
    intro h0
    rw [List.length_append] at h0
    exact hne (List.eq_nil_of_length_eq_zero (by omega))
  · simp only
    rw [hps, hx2]
    intro p hp
    rcases List.mem_append.1 hp with hp | hp
    · have hl := i3.l p hp
      refine ⟨by rw [hl]; simp, by rw [hl]; exact n3, fun t ht => ?_⟩
      have := i3.p p hp t ht
      exact ⟨by simp [this.1], this.2⟩
    · have := k4 p hp
      exact ⟨by simp [this.1], this.2.1, fun t ht => ⟨by simp [(this.2.2 t ht).1], (this.2.2 t ht).2⟩⟩
end Y
end Go.Proofs.YtoehbkgdodogkaaGreat
