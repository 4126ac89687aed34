/- Part of the proofs over this program: CalmA, TrimReach, FstGrow, FstKnown, FstKnow2, FstFollow, FstOf, FstFol2. -/
import Derived.Test.YthjohhcgegcmhaaKI
namespace Go.CalmN
open Go.RowKit

section
variable {P : Program} {ops : Array Oper} {Q : Exit → Act → World → Prop} {md : Region.Mode}

def chD (md : Region.Mode) (ops : Array Oper) (t : Ph) (dep : List (Nat × Nat)) : Nat → List Nat → Array Bool → Nat → Bool
  | 0, todo, l, n => todo.isEmpty && tB md ops t l n
  | f + 1, todo, l, n => !(Region.ready md ops l).isEmpty && decide (1 ≤ n) && (Region.ready md ops l).all fun k => todo.contains k && dep.all (fun d => !(d.1 == k) || !todo.contains d.2) && (ops[k]?).isSome && chD md ops t dep f (todo.erase k) (l.setIfInBounds k true) (n - 1)

theorem any_of_dep (hs : Region.noSelect ops = true) (hQ : ∀ c a d v w, Q (.panic c) (a.put d v) w → Q (.panic c) a w) {S : World → Prop} {t : Ph} {dep : List (Nat × Nat)} {J : List Nat → Act → World → Prop}
    (hstep : ∀ todo k a w, k ∈ todo → (∀ d ∈ dep, d.1 = k → d.2 ∉ todo) → J todo a w → S w → wpSt P ops Q ops[k]? S (fun _ a2 w2 => J (todo.erase k) a2 w2) a w)
    (hend : ∀ a w, J [] a w → S w → wpT P ops Q t S a w) :
    ∀ (f : Nat) (todo : List Nat) (listed : Array Bool) (a : Act) (w : World) (n : Nat), chD md ops t dep f todo listed n = true → S w → J todo a w → wpAnyH P md ops Q S n listed a w
  | 0, todo, listed, a, w, n, hb, hS, h => by
    unfold chD at hb
    simp only [Bool.and_eq_true, List.isEmpty_iff] at hb
    obtain ⟨rfl, h2⟩ := hb
    exact any_of_t hs hQ t S listed a w n h2 hS (hend a w h hS)
  | f + 1, todo, listed, a, w, n, hb, hS, h => by
    unfold chD at hb
    simp only [Bool.and_eq_true, decide_eq_true_iff, List.all_eq_true, Bool.not_eq_true', List.isEmpty_eq_false_iff] at hb
    obtain ⟨⟨h2, h3⟩, h4⟩ := hb
    obtain ⟨m, rfl⟩ : ∃ m, n = m + 1 := ⟨n - 1, by omega⟩
    refine wpAnyH_all rfl h2 fun i hi => ?_
    obtain ⟨⟨⟨h5, h6⟩, h7⟩, h8⟩ := h4 i hi
    obtain ⟨o, ho⟩ := Option.isSome_iff_exists.1 h7
    have hq := hstep todo i a w (by simpa using h5) (fun d hd e => by
      have := h6 d hd
      subst e
      simpa using this) h hS
    rw [ho] at hq
    refine wpOp_step ho fun K' hK => ?_
    refine hq K' fun a2 w2 h9 S' hS' hS2 h10 => hK _ _ ⟨h9, ?_⟩
    exact any_of_dep hs hQ hstep hend f _ _ a2 w2 _ h8 h9 h10

theorem region_dep {id : Nat} {a : Act} {w : World} {l : List Oper} (S : World → Prop) (p ks : List Nat) (dep : List (Nat × Nat)) (t : Ph) (J : List Nat → Act → World → Prop) (hm : P.follows .mixedOrders = true)
    (hB : (Region.noSelect l.toArray && stillB .any l.toArray p (Array.replicate l.toArray.size false) && decide (p.length ≤ l.toArray.size) && chD .any l.toArray t dep ks.length ks (marked p (Array.replicate l.toArray.size false)) (l.toArray.size - p.length)) = true)
    (hQ : ∀ c a d v w, Q (.panic c) (a.put d v) w → Q (.panic c) a w) (hS : S w.drew)
    (h0 : wpQuiet P l.toArray S (fun a' => J ks a' w.drew) (pickOps l.toArray p) a)
    (hstep : ∀ todo k a w, k ∈ todo → (∀ d ∈ dep, d.1 = k → d.2 ∉ todo) → J todo a w → S w → wpSt P l.toArray Q l.toArray[k]? S (fun _ a2 w2 => J (todo.erase k) a2 w2) a w)
    (hend : ∀ a w, J [] a w → S w → wpT P l.toArray Q t S a w) : (Code.region id l.toArray true).wp P Q a w := by
  simp only [Bool.and_eq_true, decide_eq_true_iff] at hB
  obtain ⟨⟨⟨h1, h2⟩, h3⟩, h4⟩ := hB
  refine wp_region_held (S := S) hm ?_
  have e : l.toArray.size = p.length + (l.toArray.size - p.length) := by omega
  rw [show wpAnyH P .any l.toArray Q S l.toArray.size = wpAnyH P .any l.toArray Q S (p.length + (l.toArray.size - p.length)) by rw [← e]]
  refine still_block h1 hQ hS _ p _ a h2 ?_
  exact quiet_mono (fun a' hj => any_of_dep h1 hQ hstep hend _ ks _ a' _ _ h4 hS hj) h0
end
end Go.CalmN

namespace Go.Proofs.Ythjohhcgegcmhaa
set_option maxRecDepth 100000
open Go.RowKit

section
variable {w2 wx w' : World} {n : Nat} {row : List Bool} {todo : List Nat} {x3 x5 x6 x7 : Value} {g3 g5 c6 c7 : Nat}
theorem not_erase {l : List Nat} {j k : Nat} (h : j ∉ l.erase k) (hne : j ≠ k) : j ∉ l := fun hm => h ((List.mem_erase_of_ne hne).2 hm)
theorem heap_keep {g : Nat} {o : Obj} (hb : Below wx.heap.size wx w') (h : wx.heap[g]? = some o) : w'.heap[g]? = some o := (hb.block g (Array.getElem?_eq_some_iff.1 h).1).trans h
end
end Go.Proofs.Ythjohhcgegcmhaa

namespace Go.Proofs.Ythjohhcgegcmhaa
set_option maxRecDepth 100000
open Go.RowKit

structure GSt (w wr : World) (gk n ck : Nat) (s : List Nat) (b : Bool) : Prop where
  u : UBZ wr gk s
  l : s.length = n
  q : wr.heap[w.heap.size]? = some (.cells #[.slice (some ⟨gk, 0, none⟩) n ck] 29 (0, 0))
  p : wr.heap[w.heap.size + 1]? = some (.cells #[.bool b] 4 (0, 0))
  g : w.grownBy wr (some gk)
  k : gk < w.heap.size
section
variable {w wr w' : World} {gk n ck : Nat} {s : List Nat} {b : Bool}
theorem GSt.below (h : GSt w wr gk n ck s b) (hb : Below wr.heap.size wr w') : GSt w w' gk n ck s b := ⟨h.u.below hb h.u.lt, h.l, heap_keep hb h.q, heap_keep hb h.p, only_trans h.g (only_below hb _), h.k⟩
theorem GSt.alloc (h : GSt w wr gk n ck s b) (o : Obj) : GSt w (wr.alloc o) gk n ck s b := h.below ((Below.refl _ wr).alloc (Nat.le_refl _) o)
theorem GSt.drewN (h : GSt w wr gk n ck s b) (m : Nat) : GSt w (wr.drewN m) gk n ck s b := ⟨h.u, h.l, h.q, h.p, only_drewN h.g m, h.k⟩
theorem GSt.hs (h : GSt w wr gk n ck s b) : w.heap.size + 1 < wr.heap.size := (Array.getElem?_eq_some_iff.1 h.p).1
theorem GSt.grew (h : GSt w wr gk n ck s b) (b' : Bool) : GSt w (wr.setCell ⟨w.heap.size + 1, 0, none⟩ (.bool b')) gk n ck s b' :=
  ⟨h.u.far (by have := h.k; simp only; omega) _, h.l, (Below.heap_setCell wr ⟨w.heap.size + 1, 0, none⟩ _ _ (by simp only; omega)).trans h.q, heap_setCell_same wr _ 0 _ _ _ h.p, ⟨h.g.os, h.g.tape, h.g.output, by have := h.g.size; simpa using this, fun i hi hne => (Below.heap_setCell wr ⟨w.heap.size + 1, 0, none⟩ _ i (by simp only; omega)).trans (h.g.block i hi hne)⟩, h.k⟩
theorem GSt.put (h : GSt w wr gk n ck s b) (m v : Nat) : GSt w (wr.setCell ⟨gk, m, none⟩ (.int .u32 (v : Int))) gk n ck (s.set m v) b :=
  ⟨h.u.set_ m v, by rw [List.length_set]; exact h.l, (Below.heap_setCell wr ⟨gk, m, none⟩ _ _ (by have := h.k; simp only; omega)).trans h.q, (Below.heap_setCell wr ⟨gk, m, none⟩ _ _ (by have := h.k; simp only; omega)).trans h.p, only_set h.g m _, h.k⟩
end
def bC (w : World) (g : Nat) : Nat := match w.heap[g]? with
  | some (.cells cs _ _) => bN (cs.getD 0 undef)
  | _ => 0
theorem bC_of {w : World} {g : Nat} {b : Bool} {t : TypeId} {f : Nat × Nat} (h : w.heap[g]? = some (.cells #[.bool b] t f)) : bC w g = if b = true then 1 else 0 := by
  unfold bC
  rw [h]
  cases b <;> rfl

set_option maxHeartbeats 2000000 in
theorem gadd_any (w wr : World) (gk n ck : Nat) (s : List Nat) (b : Bool) (m v : Nat) (hm : m < n) (hv : v < 4294967296) (hs : Gm.U32 s) (h : GSt w wr gk n ck s b) :
    Calls Try.prog 41 #[.int .i64 m, .int .u32 v, .pointer (some ⟨w.heap.size + 1, 0, none⟩), .pointer (some ⟨w.heap.size, 0, none⟩)] wr fun e w' => e = .returned (.tuple #[]) ∧ GSt w w' gk n ck (Gm.addN s m v) (b || decide (Gm.addN s m v ≠ s)) ∧ w'.heap.size = wr.heap.size ∧ ∀ i, i ≠ gk → i ≠ w.heap.size + 1 → w'.heap[i]? = wr.heap[i]? := by
  have hml : m < s.length := by rw [h.l]; exact hm
  have HN := hide (Gm.new_iff (hs m) hv)
  have HA := hide (Gm.addN_same (v := v) hml)
  have hx := u32_andNot_nat v (s.getD m 0) hv (hs m)
  have ho := u32_or_nat (s.getD m 0) v (hs m) hv
  have HH := hide h
  have c0 : wr.cell? ⟨w.heap.size, 0, none⟩ = some (.slice (some ⟨gk, 0, none⟩) n ck) := by rw [cell_of_row wr _ 0 _ _ _ h.q]; rfl
  have c1 : wr.cell? ⟨w.heap.size + 1, 0, none⟩ = some (.bool b) := by rw [cell_of_row wr _ 0 _ _ _ h.p]; rfl
  have f1 := frozen_of_row wr _ 0 _ _ h.p
  have cm := h.u.cell m hml
  have hd := h.hs
  have hgk := h.u.lt
  have hm2 : (m : Int) < (n : Int) := by omega
  generalize hB : (b || decide (Gm.addN s m v ≠ s)) = b2
  have HB := hide hB
  obtain ⟨wy, hwy⟩ : ∃ y, y = wr.setCell ⟨w.heap.size + 1, 0, none⟩ (.bool b2) := ⟨_, rfl⟩
  have hy : GSt w wy gk n ck s b2 := by rw [hwy]; exact h.grew b2
  have HZ := hide (show GSt w (wy.setCell ⟨gk, m, none⟩ (.int .u32 ((s.getD m 0 ||| v : Nat) : Int))) gk n ck (Gm.addN s m v) b2 from hy.put m _)
  have HYS : Hid (wy.heap.size = wr.heap.size) := hide (by rw [hwy]; simp)
  have HYB : Hid (∀ i, i ≠ gk → i ≠ w.heap.size + 1 → (wy.setCell ⟨gk, m, none⟩ (.int .u32 ((s.getD m 0 ||| v : Nat) : Int))).heap[i]? = wr.heap[i]?) := hide (fun i h1 h2 => by rw [Below.heap_setCell _ _ _ _ (by simp only; exact h1), hwy, Below.heap_setCell _ _ _ _ (by simp only; exact h2)])
  have e0 : wy.cell? ⟨w.heap.size, 0, none⟩ = some (.slice (some ⟨gk, 0, none⟩) n ck) := by rw [cell_of_row wy _ 0 _ _ _ hy.q]; rfl
  have em := hy.u.cell m hml
  have fm := hy.u.frozen m
  have hdy := hy.hs
  have hgy := hy.u.lt
  clear hy hB h hs hm hml hv
  cases b
  · rw [Bool.false_or] at HB
    have hne : (((v &&& (4294967295 - s.getD m 0) : Nat) : Int) != 0) = b2 := by
      have h1 := HN.out
      have h2 := HA.out
      rw [← HB.out]
      by_cases e : v &&& (4294967295 - s.getD m 0) = 0
      · rw [e, decide_eq_false (p := Gm.addN s m v ≠ s) (fun hn => hn (h2.2 (h1.1 e)))]; rfl
      · rw [decide_eq_true (p := Gm.addN s m v ≠ s) (fun he => e (h1.2 (h2.1 he)))]
        rw [bne_iff_ne]; omega
    generalize v &&& (4294967295 - s.getD m 0) = d at *
    generalize s.getD m 0 ||| v = d2 at *
    generalize s.getD m 0 = d3 at *
    clear HN HA HB HH
    go_enter Try.func41, Try.ntmps41
    go_upto_region 1 with fail
    rw [← hwy]
    clear hwy c0 c1 f1 cm
    go_wp2
    go_end0
    exact ⟨rfl, HZ.out, by rw [← HYS.out]; simp, HYB.out⟩
  · rw [Bool.true_or] at HB
    obtain rfl := HB.out
    generalize s.getD m 0 ||| v = d2 at *
    generalize s.getD m 0 = d3 at *
    clear HN HA HB HH hx
    go_enter Try.func41, Try.ntmps41
    go_upto_region 1 with fail
    rw [← hwy]
    clear hwy c0 c1 f1 cm
    go_wp2
    go_end0
    exact ⟨rfl, HZ.out, by rw [← HYS.out]; simp, HYB.out⟩

theorem Gm.new_or {s s1 s2 : List Nat} (h1 : Gm.NLe s s1) (h2 : Gm.NLe s1 s2) : (decide (s1 ≠ s) || decide (s2 ≠ s1)) = decide (s2 ≠ s) := by
  by_cases e : s1 = s
  · subst e; simp
  · rw [decide_eq_true e, Bool.true_or]
    symm
    rw [decide_eq_true_iff]
    rintro rfl
    exact e (h1.anti h2)

set_option maxHeartbeats 8000000 in
theorem fgrow_any (fb : Nat) (caps : Array Value) (hE : ∀ args w, Sem.run Try.prog (callFunc fb args) w = .ok (.enter fb args) w) (rs : List Gm.Rl) (AR : Option Addr) (cR ck B gk n : Nat) (w : World) (s0 : List Nat) (P : List Nat → Prop) (br : List Nat → Gm.Rl → List Nat)
    (hR : RdRl w B AR rs) (hB : B ≤ w.heap.size) (hkB : B ≤ gk) (hu : UBZ w gk s0) (hn : s0.length = n) (h0 : P s0) (hl : rs.length ≤ 1000000) (hle : ∀ s x, Gm.NLe s (br s x)) (hP : ∀ s x, x ∈ rs → P s → P (br s x)) (hPu : ∀ s, P s → Gm.U32 s)
    (hbr : ∀ (y : World) (s : List Nat) (b : Bool) (x : Gm.Rl) (A' : Option Addr) (c' : Nat), GSt w y gk n ck s b → P s → x ∈ rs → RdI y B A' x.r → x.r.length ≤ c' → Calls Try.prog fb (#[.agg #[.int .i64 x.l, .slice A' x.r.length c', .int .i64 x.p], .func (Fn.func 41) #[] #[.pointer (some ⟨w.heap.size + 1, 0, none⟩), .pointer (some ⟨w.heap.size, 0, none⟩)]] ++ caps) y fun e w' => e = .returned (.tuple #[]) ∧ GSt w w' gk n ck (br s x) (b || decide (br s x ≠ s)) ∧ y.heap.size ≤ w'.heap.size) :
    Calls Try.prog 19 #[.slice (some ⟨gk, 0, none⟩) n ck, .slice AR rs.length cR, .func (Fn.func fb) #[] caps] w fun e w' => e = .returned (.tuple #[]) ∧ ∃ s, P s ∧ (∀ x ∈ rs, br s x = s) ∧ UBZ w' gk s ∧ s.length = n ∧ w.grownBy w' (some gk) := by
  have HR := hide hR
  have HB := hide hB
  have HK := hide hkB
  have HBR := hide hbr
  have HLE := hide hle
  have HP := hide hP
  have HPU := hide hPu
  have hlen : (rs.length : Int) ≤ 9223372036854775807 := by omega
  have hw0 := heap_alloc_new w (.cells #[.slice (some ⟨gk, 0, none⟩) n ck] 29)
  have hu1 := hu.alloc (.cells #[.slice (some ⟨gk, 0, none⟩) n ck] 29)
  obtain ⟨w1, hw1⟩ : ∃ y, y = w.alloc (.cells #[.slice (some ⟨gk, 0, none⟩) n ck] 29) := ⟨_, rfl⟩
  rw [← hw1] at hw0 hu1
  have hs1 : w1.heap.size = w.heap.size + 1 := by rw [hw1]; simp
  have hg1 : w.grownBy w1 (some gk) := by rw [hw1]; exact only_alloc (World.grownBy.refl _ _) _
  have hG0 : GSt w (w1.alloc (.cells #[.bool true] 4)) gk n ck s0 true :=
    ⟨hu1.alloc _, hn, (Below.heap_alloc _ _ _ (by omega)).trans hw0, by rw [← hs1]; exact heap_alloc_new w1 _, only_alloc hg1 _, hu.lt⟩
  obtain ⟨w2, hw2⟩ : ∃ y, y = w1.alloc (.cells #[.bool true] 4) := ⟨_, rfl⟩
  rw [← hw2] at hG0
  have HG0 := hide hG0
  have H0 := hide h0
  clear hR hB hkB hu hn hl hbr hle hP hPu hw0 hu1 hg1 hG0 h0
  go_enter Try.func19, Try.ntmps19
  go_upto_region 1 with fail
  rw [← hw1]
  clear hw1
  go_upto_region 2 with fail
  rw [← hw2]
  clear hw2
  go_wp2
  go_loopw [11] (fun _ wr => ∃ (s : List Nat) (b : Bool), Hid (GSt w wr gk n ck s b) ∧ Hid (P s) ∧ Hid (b = false → ∀ x ∈ rs, br s x = s)) (fun _ wr => 2 * cntN wr gk + bC wr (w.heap.size + 1))
  case atStart => exact ⟨s0, true, HG0, H0, hide (fun h => by cases h)⟩
  case round =>
    obtain ⟨s, b, HG, HS, HC⟩ := hrel
    obtain ⟨wo, hwo⟩ : ∃ wo : World, wo = wr := ⟨_, rfl⟩
    subst hwo
    have c1 : wo.cell? ⟨w.heap.size + 1, 0, none⟩ = some (.bool b) := by rw [cell_of_row wo _ 0 _ _ _ HG.out.p]; rfl
    have f1 := frozen_of_row wo _ 0 _ _ HG.out.p
    have hd := HG.out.hs
    cases b
    · go_wp2
      go_end0
      exact ⟨rfl, s, HS.out, HC.out (by trivial), HG.out.u, HG.out.l, HG.out.g⟩
    · clear HC
      obtain ⟨wf, hwf⟩ : ∃ y, y = wo.setCell ⟨w.heap.size + 1, 0, none⟩ (.bool false) := ⟨_, rfl⟩
      have HF : Hid (GSt w wf gk n ck s false) := hide (by rw [hwf]; exact HG.out.grew false)
      go_upto_region 5 with fail
      rw [← hwf]
      clear c1 f1 hwf
      go_wp2
      go_loopw [14] (fun vi wr => ∃ (s1 : List Nat) (b1 : Bool) (i : Nat), i ≤ rs.length ∧ vi = .int .i64 i ∧ Hid (GSt w wr gk n ck s1 b1) ∧ Hid (P s1) ∧ Hid (Gm.NLe s s1) ∧ Hid (b1 = decide (s1 ≠ s)) ∧ Hid (s1 = (rs.take i).foldl br s)) (fun vi _ => rs.length - (intOf vi).toNat)
      case atStart => exact ⟨s, false, 0, Nat.zero_le _, rfl, HF, HS, hide (Gm.NLe.refl _), hide (by simp), hide rfl⟩
      case round =>
        obtain ⟨s1, b1, i, hi, rfl, HG1, HS1, HL1, HB1, HF1⟩ := hrel
        obtain ⟨wi, hwi⟩ : ∃ wi : World, wi = wr := ⟨_, rfl⟩
        subst hwi
        by_cases hlt : i < rs.length
        · obtain ⟨g, o, rfl, hgB, hc⟩ := HR.out (by omega)
          obtain ⟨k0, ⟨A', c', k1, hlc, _, hri⟩, k2⟩ := hc i hlt
          have k0 := (grown_cell HG1.out.g HB.out HK.out hgB).trans k0
          have k1 := (grown_cell HG1.out.g HB.out HK.out hgB).trans k1
          have k2 := (grown_cell HG1.out.g HB.out HK.out hgB).trans k2
          have hgs : g < wi.heap.size := by have := HG1.out.g.size; have := HB.out; omega
          have HBi := hide (fun (o : Obj) => HBR.out (wi.alloc o) s1 b1 rs[i] A' c' (HG1.out.alloc o) HS1.out (List.getElem_mem hlt) (hri.keep fun g o hg => grown_cell (HG1.out.alloc _).g HB.out HK.out hg) hlc)
          have HLi := hide (HLE.out s1 rs[i])
          have HPi := hide (HP.out s1 rs[i] (List.getElem_mem hlt) HS1.out)
          have HTi : Hid (rs.take (i + 1) = rs.take i ++ [rs[i]]) := hide (List.take_succ_eq_append_getElem hlt)
          clear hc hri hlc
          generalize rs[i] = x at *
          go_wp2_with fail
          refine (HBi.out _).mono ?_; rintro _ w2 ⟨rfl, hg2, hz2⟩
          have HG2 := hide hg2
          clear hg2 hz2 k0 k1 k2 hgs
          go_wp2
          go_roundw
          case rel => exact ⟨br s1 x, _, i + 1, hlt, by go_num, HG2, HPi, hide (HL1.out.trans HLi.out), hide (by rw [HB1.out]; exact Gm.new_or HL1.out HLi.out), hide (by rw [HTi.out, List.foldl_append, ← HF1.out]; rfl)⟩
          case measure => simp [intOf]; omega
        · obtain rfl : i = rs.length := by omega
          rw [List.take_length] at HF1
          go_wp2
          go_roundw
          case rel => exact ⟨s1, b1, HG1, HS1, hide fun e x hx => by
            have e1 : s1 = s := by
              have := HB1.out
              rw [e] at this
              exact Classical.byContradiction fun h => by rw [decide_eq_true h] at this; cases this
            have h2 := HF1.out
            rw [e1] at h2 ⊢
            exact Gm.fold_rest HLE.out rs s h2.symm x hx⟩
          case measure =>
            have q1 := HG.out.u.cnt
            have q2 := HG1.out.u.cnt
            have q3 := bC_of HG.out.p
            have q4 := bC_of HG1.out.p
            rw [q1, q2, q3, q4]
            cases b1
            · have e1 : s1 = s := by
                have := HB1.out
                exact Classical.byContradiction fun h => by rw [decide_eq_true h] at this; cases this
              rw [e1]; simp
            · have e1 : s1 ≠ s := of_decide_eq_true HB1.out.symm
              have := Gm.gap_lt HL1.out (HPU.out s1 HS1.out) (fun e => e1 e.symm)
              simp; omega
end Go.Proofs.Ythjohhcgegcmhaa

namespace Go.Proofs.Ythjohhcgegcmhaa
set_option maxRecDepth 100000
open Go.RowKit

def OnB2 (g h : Nat) (w : World) : Type := {x : World // x.heap[g]? = w.heap[g]? ∧ x.heap[h]? = w.heap[h]?}
instance (g h : Nat) (w : World) : Nonempty (OnB2 g h w) := ⟨⟨w, rfl, rfl⟩⟩
structure RlIn (nt nn : Nat) (x : Gm.Rl) : Prop where
  i : ∀ z ∈ x.r, Gm.In z
  t : ∀ z ∈ x.r, z ≤ 31
  n : ∀ z ∈ x.r, z < 0 → -1 - z < (nn : Int)
  l0 : 0 ≤ x.l
  l1 : x.l < (nn : Int)
  c : x.r.length ≤ 6
theorem rlIn {G : Gm.Gr} (hf : Gm.Fit G) (hok : Gm.Ok G) {x : Gm.Rl} (hx : x ∈ G.rs) : RlIn G.ts.length G.ns.length x := by
  have h1 := Gm.rule_in (hok.rr x hx)
  have h2 := (Gm.terms_iff G.ts).1 hok.t
  exact ⟨(hf.r x hx).2.2, fun z hz => by have := (h1.2.2.2 z hz).1; omega, fun z hz h => hok.sin x hx z hz h, (hok.lin x hx).1, (hok.lin x hx).2, h1.1⟩

set_option maxHeartbeats 4000000 in
theorem known1_any (w y : World) (gk n ck kp nt : Nat) (s : List Nat) (b : Bool) (nu : List Bool) (A1 A' : Option Addr) (c1 c' B : Nat) (x : Gm.Rl) (h : GSt w y gk n ck s b) (hkp : y.heap[kp]? = some (.cells #[.slice A1 n c1, .slice (some ⟨gk, 0, none⟩) n ck] 45 (0, 0)))
    (h1 : RdO y y.heap.size A1 nu) (hnu : nu.length = n) (hne : kp ≠ gk) (hkw : kp < w.heap.size) (hr : RdI y B A' x.r) (hB : B ≤ y.heap.size) (hU : Gm.U32 s) (hx : RlIn nt n x) :
    Calls Try.prog 39 #[.agg #[.int .i64 x.l, .slice A' x.r.length c', .int .i64 x.p], .func (Fn.func 41) #[] #[.pointer (some ⟨w.heap.size + 1, 0, none⟩), .pointer (some ⟨w.heap.size, 0, none⟩)], .pointer (some ⟨kp, 0, none⟩)] y fun e w' => e = .returned (.tuple #[]) ∧ GSt w w' gk n ck (Gm.firstN1 nu s x) (b || decide (Gm.firstN1 nu s x ≠ s)) ∧ y.heap.size ≤ w'.heap.size := by
  obtain ⟨y1, hy1⟩ : ∃ z, z = y.alloc (.cells #[.int .i64 x.l, .slice A' x.r.length c', .int .i64 x.p] 34) := ⟨_, rfl⟩
  have hb1 : Below y.heap.size y y1 := by rw [hy1]; exact (Below.refl _ y).alloc (Nat.le_refl _) _
  have hs1 : y1.heap.size = y.heap.size + 1 := by rw [hy1]; simp
  have hbx : y1.heap[y.heap.size]? = some (.cells #[.int .i64 x.l, .slice A' x.r.length c', .int .i64 x.p] 34 (0, 0)) := by rw [hy1]; exact heap_alloc_new y _
  have hbk := heap_keep hb1 hkp
  have hG1 := h.below hb1
  have hl : s.length = n := h.l
  obtain ⟨l, r, p⟩ := x
  obtain ⟨m, rfl⟩ : ∃ m : Nat, l = (m : Int) := ⟨l.toNat, by have := hx.l0; simp only at this; omega⟩
  simp only at hr hbx ⊢
  have hmn : m < n := by have := hx.l1; simp only at this; omega
  have HE : Hid (Gm.firstN1 nu s ⟨(m : Int), r, p⟩ = Gm.addN s m (Gm.ofN nu s 0 r)) := hide (by unfold Gm.firstN1; simp)
  rw [HE.out]
  have hv : Gm.ofN nu s 0 r < 4294967296 := Gm.U32.ofN hU (by decide) hx.t
  have HOF := hide (fun (z : World) (hz : Below y1.heap.size y1 z) => kof_any r 0 nu s A' A1 (some ⟨gk, 0, none⟩) c' c1 ck B y.heap.size (gk + 1) z ((hr.below hb1 hB).below hz (by omega)) ((h1.below hb1 (Nat.le_refl _)).below hz (by omega)) ((hG1.u.below hz hG1.u.lt).rd (by omega)) (by have := hz.size; omega) (by have := hz.size; omega) (by have := hz.size; have := hG1.u.lt; omega) hx.i hx.t (fun z hz h => by rw [hl]; exact hx.n z hz h) (by rw [hnu, hl]) hU (by decide) (by have := hx.c; simp only at this; omega))
  rw [hnu, hl] at HOF
  have HAD := hide (fun (z : World) (hz : Below y1.heap.size y1 z) => gadd_any w z gk n ck s b m (Gm.ofN nu s 0 r) hmn hv hU (hG1.below hz))
  generalize Gm.ofN nu s 0 r = v at *
  have HSZ := hide hs1
  have HKN := hide (And.intro hne hkw)
  have HG := hide (And.intro h.k h.hs)
  have q0 := fun z : OnB2 y.heap.size kp y1 => cell_of_row z.1 _ 0 _ _ _ (z.2.1.trans hbx)
  have q1 := fun z : OnB2 y.heap.size kp y1 => cell_of_row z.1 _ 1 _ _ _ (z.2.1.trans hbx)
  have q3 := fun z : OnB2 y.heap.size kp y1 => cell_of_row z.1 _ 0 _ _ _ (z.2.2.trans hbk)
  have q4 := fun z : OnB2 y.heap.size kp y1 => cell_of_row z.1 _ 1 _ _ _ (z.2.2.trans hbk)
  have HBX := hide hbx
  have HBK := hide hbk
  clear hr h1 hx hU hv hmn hl hb1 hG1 h hkp hB hnu hs1 HE hbx hbk hne hkw
  go_enter Try.func39, Try.ntmps39
  go_upto_region 1 with fail
  rw [← hy1]
  clear hy1
  refine CalmN.region_tree (fun x => ∃ z : OnB2 y.heap.size kp y1, x = z.1) (.one [0, 1, 2, 3, 4, 5] 6 (.one [] 7 (.fin []))) (by kernel_rfl) (by kernel_rfl) (fun _ _ d _ _ h => by cases d <;> exact h) ⟨⟨y1.drew, rfl, rfl⟩, rfl⟩ ?_
  simp only [CalmN.wpT, CalmN.wpSt, CalmN.pickOps, List.getElem?_toArray, List.getElem?_cons_zero, List.getElem?_cons_succ]
  repeat (go_big_quiet_step (fail))
  refine wpQuiet_nil ?_
  have HBD : Hid (Below y1.heap.size y1 y1.drew) := hide (below_drewN (Below.refl _ _) 1)
  obtain ⟨yd, hyd⟩ : ∃ z, z = y1.drew := ⟨_, rfl⟩
  rw [← hyd] at HBD ⊢
  clear hyd q0 q1 q3 q4
  intro KK hKK
  rw [if_pos (by rfl)]
  go_wp2_with fail
  refine (HOF.out _ HBD.out).mono ?_; rintro _ w3 ⟨rfl, hb3⟩
  have HB3 := hide (HBD.out.trans (hb3.mono HBD.out.size))
  clear hb3
  go_wp2_with fail
  have hS3 : ∃ z : OnB2 y.heap.size kp y1, w3 = z.1 := ⟨⟨w3, HB3.out.block _ (by have := HSZ.out; omega), HB3.out.block _ (Array.getElem?_eq_some_iff.1 HBK.out).1⟩, rfl⟩
  refine hKK _ _ hS3 (fun x => ∃ z : OnB2 y.heap.size kp y1, x = z.1) (fun _ h => h) hS3 ?_
  clear hKK hS3
  refine wpQuiet_nil ?_
  intro KK hKK
  rw [if_pos (by rfl)]
  go_wp2_with fail
  refine (HAD.out _ HB3.out).mono ?_; rintro _ w4 ⟨rfl, hg4, hz4, hb4⟩
  have HG4 := hide hg4
  have HZ4 : Hid (y.heap.size ≤ w4.heap.size) := hide (by rw [hz4]; have := HB3.out.size; have := HSZ.out; omega)
  have hS4 : ∃ z : OnB2 y.heap.size kp y1, w4 = z.1 := ⟨⟨w4, (hb4 _ (by have := HG.out; have := HSZ.out; omega) (by have := HG.out; have := HSZ.out; omega)).trans (HB3.out.block _ (by have := HSZ.out; omega)), (hb4 _ HKN.out.1 (by have := HKN.out; omega)).trans (HB3.out.block _ (Array.getElem?_eq_some_iff.1 HBK.out).1)⟩, rfl⟩
  clear hg4 hz4 hb4
  go_wp2_with fail
  refine hKK _ _ hS4 (fun x => ∃ z : OnB2 y.heap.size kp y1, x = z.1) (fun _ h => h) hS4 ?_
  clear hKK hS4
  refine wpQuiet_nil ?_
  go_wp2
  go_end0
  exact ⟨rfl, HG4.out, HZ4.out⟩
end Go.Proofs.Ythjohhcgegcmhaa

namespace Go.Proofs.Ythjohhcgegcmhaa
set_option maxRecDepth 100000
open Go.RowKit

theorem mkU_wp {w : World} {o : Oper} {a : Act} {K : Act → World → Prop} {Q : Exit → Act → World → Prop} (l c : Operand) (t : TypeId) (hop : o.op = Op.makeSlice t l c) (ht : Try.prog.underlying t = some (.slice 31)) (n : Nat) (hl : a.eval l = .int .i64 n) (hc : a.eval c = .int .i64 n) (hn : n ≤ 35184372088832)
    (hK : ∀ w', UBZ w' w.heap.size (List.replicate n 0) → Below w.heap.size w w' → K (a.put o.dst (.slice (some ⟨w.heap.size, 0, none⟩) n n)) w') : Oper.wp Try.prog o a w K Q := by
  obtain ⟨i, hi, hz0, hz1, hz2⟩ := info_parts infoU
  obtain ⟨w', hrun, hown, hgr⟩ := run_make_full (P := Try.prog) w w.heap.size t 31 i (.int .u32 0) 1 ht hi hz0 hz1 .i64 .i64 n (by rw [hz2]; omega) (by unfold maxLen; omega) (Nat.le_refl _)
  have hu : UBZ w' w.heap.size (List.replicate n 0) := by
    unfold UBZ
    rw [zi_rep]
    refine ubU_of_full (base := w.heap.size) (n := n) ?_
    rw [map_replicateU]
    have e : (madeCells (Value.int IntKind.u32 0).cells (n * 1)).toList = List.replicate n (Value.int .u32 0) := by
      rw [Nat.mul_one]; exact toList_madeCells_one _ _
    rw [e] at hown; exact hown
  unfold Oper.wp
  simp [execOp, hop, hl, hc, hrun, Result.andThen]
  exact hK w' hu ⟨hgr.os, hgr.tape, hgr.output, hgr.size, fun k hk => hgr.block k hk (by simp)⟩
structure JK (w2 : World) (n : Nat) (row : List Bool) (todo : List Nat) (wx : World) (x3 x5 x9 x10 : Value) (g1 g5 c7 : Nat) : Prop where
  t : ∀ k ∈ todo, k = 1 ∨ k = 5 ∨ k = 6 ∨ k = 7
  b : Below w2.heap.size w2 wx
  h1 : 1 ∉ todo → x5 = .slice (some ⟨g1, 0, none⟩) n n ∧ w2.heap.size ≤ g1 ∧ UBO wx g1 row
  h5 : 5 ∉ todo → x9 = .slice (some ⟨g5, 0, none⟩) n n ∧ w2.heap.size ≤ g5 ∧ UBZ wx g5 (List.replicate n 0)
  h6 : 6 ∉ todo → 1 ∉ todo ∧ 5 ∉ todo ∧ x10 = .agg #[.slice (some ⟨g1, 0, none⟩) n n, .slice (some ⟨g5, 0, none⟩) n n]
  h7 : 7 ∉ todo → x3 = .pointer (some ⟨c7, 0, none⟩) ∧ w2.heap.size ≤ c7 ∧ wx.heap[c7]? = some (.cells #[.slice none 0 0, .slice none 0 0] 45 (0, 0))
section
variable {w2 wx w' : World} {n : Nat} {row : List Bool} {todo : List Nat} {x3 x5 x9 x10 : Value} {g1 g5 c7 : Nat}
theorem JK.put1 (h : JK w2 n row todo wx x3 x5 x9 x10 g1 g5 c7) (hm : 1 ∈ todo) (hb : Below wx.heap.size wx w') {g : Nat} (hg : wx.heap.size ≤ g) (hu : UBO w' g row) : JK w2 n row (todo.erase 1) w' x3 (.slice (some ⟨g, 0, none⟩) n n) x9 x10 g g5 c7 where
  t k hk := h.t k (List.mem_of_mem_erase hk)
  b := h.b.trans (hb.mono h.b.size)
  h1 _ := ⟨rfl, Nat.le_trans h.b.size hg, hu⟩
  h5 q := by obtain ⟨a1, a2, a3⟩ := h.h5 (not_erase q (by decide)); exact ⟨a1, a2, heap_keep hb a3⟩
  h6 q := absurd hm (h.h6 (not_erase q (by decide))).1
  h7 q := by obtain ⟨a1, a2, a3⟩ := h.h7 (not_erase q (by decide)); exact ⟨a1, a2, heap_keep hb a3⟩
theorem JK.put5 (h : JK w2 n row todo wx x3 x5 x9 x10 g1 g5 c7) (hm : 5 ∈ todo) (hb : Below wx.heap.size wx w') (hu : UBZ w' wx.heap.size (List.replicate n 0)) : JK w2 n row (todo.erase 5) w' x3 x5 (.slice (some ⟨wx.heap.size, 0, none⟩) n n) x10 g1 wx.heap.size c7 where
  t k hk := h.t k (List.mem_of_mem_erase hk)
  b := h.b.trans (hb.mono h.b.size)
  h1 q := by obtain ⟨a1, a2, a3⟩ := h.h1 (not_erase q (by decide)); exact ⟨a1, a2, heap_keep hb a3⟩
  h5 _ := ⟨rfl, h.b.size, hu⟩
  h6 q := absurd hm (h.h6 (not_erase q (by decide))).2.1
  h7 q := by obtain ⟨a1, a2, a3⟩ := h.h7 (not_erase q (by decide)); exact ⟨a1, a2, heap_keep hb a3⟩
theorem JK.put7 (h : JK w2 n row todo wx x3 x5 x9 x10 g1 g5 c7) : JK w2 n row (todo.erase 7) (wx.alloc (.cells #[.slice none 0 0, .slice none 0 0] 45)) (.pointer (some ⟨wx.heap.size, 0, none⟩)) x5 x9 x10 g1 g5 wx.heap.size where
  t k hk := h.t k (List.mem_of_mem_erase hk)
  b := h.b.alloc h.b.size _
  h1 q := by obtain ⟨a1, a2, a3⟩ := h.h1 (not_erase q (by decide)); exact ⟨a1, a2, heap_keep ((Below.refl _ wx).alloc (Nat.le_refl _) _) a3⟩
  h5 q := by obtain ⟨a1, a2, a3⟩ := h.h5 (not_erase q (by decide)); exact ⟨a1, a2, heap_keep ((Below.refl _ wx).alloc (Nat.le_refl _) _) a3⟩
  h6 q := by obtain ⟨a1, a2, a3⟩ := h.h6 (not_erase q (by decide)); exact ⟨fun m => a1 (List.mem_of_mem_erase m), fun m => a2 (List.mem_of_mem_erase m), a3⟩
  h7 _ := ⟨rfl, h.b.size, heap_alloc_new wx _⟩
theorem JK.put6 (h : JK w2 n row todo wx x3 x5 x9 x10 g1 g5 c7) (m1 : 1 ∉ todo) (m5 : 5 ∉ todo) : JK w2 n row (todo.erase 6) wx x3 x5 x9 (.agg #[.slice (some ⟨g1, 0, none⟩) n n, .slice (some ⟨g5, 0, none⟩) n n]) g1 g5 c7 where
  t k hk := h.t k (List.mem_of_mem_erase hk)
  b := h.b
  h1 q := h.h1 m1
  h5 q := h.h5 m5
  h6 q := ⟨fun m => m1 (List.mem_of_mem_erase m), fun m => m5 (List.mem_of_mem_erase m), rfl⟩
  h7 q := h.h7 (not_erase q (by decide))
end
def KnAns (G : Gm.Gr) (w : World) (e : Ending) (w' : World) : Prop := ∃ g1 g5, e = .returned (.agg #[.slice (some ⟨g1, 0, none⟩) G.ns.length G.ns.length, .slice (some ⟨g5, 0, none⟩) G.ns.length G.ns.length]) ∧ w.heap.size ≤ g1 ∧ w.heap.size ≤ g5 ∧ UBO w' g1 (Gm.gn false G.rs G.ns.length) ∧ UBZ w' g5 (Gm.fst G) ∧ Below w.heap.size w w'
def FsP (G : Gm.Gr) (s : List Nat) : Prop := s.length = G.ns.length ∧ Gm.U32 s ∧ ∀ i t : Nat, (s.getD i 0).testBit t = true → Gm.Fs G t (i : Int)
theorem FsP.start (G : Gm.Gr) : FsP G (List.replicate G.ns.length 0) := by
  refine ⟨by simp, fun i => ?_, fun i t h => ?_⟩
  · rw [List.getD_eq_getElem?_getD, List.getElem?_replicate]; split <;> simp
  · rw [Gm.none_bit] at h; cases h
theorem FsP.step {G : Gm.Gr} (hf : Gm.Fit G) (hok : Gm.Ok G) {s : List Nat} {x : Gm.Rl} (hx : x ∈ G.rs) (h : FsP G s) : FsP G (Gm.firstN1 (Gm.gn false G.rs G.ns.length) s x) :=
  ⟨by unfold Gm.firstN1; rw [Gm.addN_len]; exact h.1, h.2.1.addN _ (Gm.U32.ofN h.2.1 (by decide) (rlIn hf hok hx).t), fun i t hb => Gm.fst_step hok.lin h.2.2 hx i t hb⟩

set_option maxHeartbeats 16000000 in
theorem knownOf_any (v : Value) (G : Gm.Gr) (B : Nat) (w : World) (hg : RdGr w B v G) (hf : Gm.Fit G) (hok : Gm.Ok G) (hB : B ≤ w.heap.size) :
    Calls Try.prog 16 #[v] w (KnAns G w) := by
  have HNU := hide (fun (x : World) (h : Below w.heap.size w x) => (show Calls _ _ _ _ (RowT _ _) from (nullable_any v G B x (hg.below h hB) hf (Nat.le_trans hB h.size)).mono fun e w' k => k.1 (Gm.right_ok.2 hok)))
  obtain ⟨AT, cT, AN, cN, AR, cR, rfl, _, ⟨hlN, hmN⟩, _, _, _, hR⟩ := hg
  have HS0 := hide ((One.start w #[.slice AT G.ts.length cT, .slice AN G.ns.length cN, .slice AR G.rs.length cR, .int .i64 G.st]).alloc (.cells #[.slice none 0 0, .slice none 0 0] 45))
  have HRl := hide hR
  have HB := hide hB
  have HFT := hide hf
  have HOK := hide hok
  have HN : Hid (G.ns.length ≤ 40) := hide (by have := (Gm.nons_iff G).1 HOK.out.n; omega)
  have HR40 : Hid (G.rs.length ≤ 40) := hide HOK.out.r40
  have hnn := HN.out
  have hlen : (G.ns.length : Int) ≤ 9223372036854775807 := by omega
  obtain ⟨w2, hw2⟩ : ∃ y, y = (w.alloc (.cells #[.slice AT G.ts.length cT, .slice AN G.ns.length cN, .slice AR G.rs.length cR, .int .i64 G.st] 26)).alloc (.cells #[.slice none 0 0, .slice none 0 0] 45) := ⟨_, rfl⟩
  rw [← hw2] at HS0
  have HRS : Hid (w2.heap[w.heap.size + 1]? = some (.cells #[.slice none 0 0, .slice none 0 0] 45 (0, 0))) := hide (by rw [hw2]; have := heap_alloc_new (w.alloc (.cells #[.slice AT G.ts.length cT, .slice AN G.ns.length cN, .slice AR G.rs.length cR, .int .i64 G.st] 26)) (.cells #[.slice none 0 0, .slice none 0 0] 45); simpa using this)
  have hz2 : w2.heap.size = w.heap.size + 2 := by rw [hw2]; simp
  have HZ2 := hide hz2
  have HW2 : Hid (Below w.heap.size w w2) := hide HS0.out.below
  have hd1 : w.heap.size < w2.heap.size := by omega
  obtain ⟨T, hT⟩ : ∃ x, x = Gm.gn false G.rs G.ns.length := ⟨_, rfl⟩
  have HTl : Hid (T.length = G.ns.length) := hide (by rw [hT, Gm.gn_len])
  rw [← hT] at HNU
  have HT := hide hT
  have H3 := hide (fun (x : World) (h : Below w2.heap.size w2 x) => HNU.out x (HW2.out.trans (h.mono (Nat.le_of_lt hd1))))
  have q0 := fun y : Calm.On w2.heap.size w2 => (y.2.cell (p := ⟨w.heap.size, 0, none⟩) hd1).trans (HS0.out.c 0 _ rfl)
  have q1 := fun y : Calm.On w2.heap.size w2 => (y.2.cell (p := ⟨w.heap.size, 1, none⟩) hd1).trans (HS0.out.c 1 _ rfl)
  have q2 := fun y : Calm.On w2.heap.size w2 => (y.2.cell (p := ⟨w.heap.size, 2, none⟩) hd1).trans (HS0.out.c 2 _ rfl)
  have q3 := fun y : Calm.On w2.heap.size w2 => (y.2.cell (p := ⟨w.heap.size, 3, none⟩) hd1).trans (HS0.out.c 3 _ rfl)
  clear hf hok hR hB hT hz2 HNU
  go_enter Try.func16, Try.ntmps16
  go_upto_region 1 with fail
  rw [← hw2]
  clear hw2
  refine CalmN.region_dep (fun x => ∃ y : Calm.On w2.heap.size w2, x = y.1) [0, 2, 3, 4] [1, 5, 6, 7] [(6, 1), (6, 5)] (.one [] 8 (.fin []))
    (fun todo a wx => ∃ x3 x5 x9 x10 g1 g5 c7, a = { tmps := #[.agg #[.slice AT G.ts.length cT, .slice AN G.ns.length cN, .slice AR G.rs.length cR, .int .i64 G.st], .pointer (some ⟨w.heap.size, 0, none⟩), .pointer (some ⟨w.heap.size + 1, 0, none⟩), x3, .agg #[.slice AT G.ts.length cT, .slice AN G.ns.length cN, .slice AR G.rs.length cR, .int .i64 G.st], x5, .pointer (some ⟨w.heap.size, 1, none⟩), .slice AN G.ns.length cN, .int .i64 G.ns.length, x9, x10, undef, undef, undef, undef, undef, undef, undef], defers := [] } ∧ JK w2 G.ns.length T todo wx x3 x5 x9 x10 g1 g5 c7)
    (by kernel_rfl) (by kernel_rfl) (fun _ _ d _ _ h => by cases d <;> exact h) ⟨⟨w2.drew, below_drewN (Below.refl _ _) 1⟩, rfl⟩ ?_ ?_ ?_
  · simp only [CalmN.pickOps, List.getElem?_toArray, List.getElem?_cons_zero, List.getElem?_cons_succ]
    repeat (go_big_quiet_step (fail))
    refine wpQuiet_nil ?_
    exact ⟨undef, undef, undef, undef, 0, 0, 0, rfl, ⟨by simp, below_drewN (Below.refl _ _) 1, fun h => absurd (by simp) h, fun h => absurd (by simp) h, fun h => absurd (by simp) h, fun h => absurd (by simp) h⟩⟩
  · intro todo k a wx hk hD hJ hS
    obtain ⟨x3, x5, x9, x10, g1, g5, c7, rfl, hJ⟩ := hJ
    have HJ := hide hJ
    have hcase := hJ.t k hk
    have HK := hide hk
    have HD := hide hD
    clear hJ hS hk hD q0 q1 q2 q3
    rcases hcase with rfl | rfl | rfl | rfl
    · simp only [CalmN.wpSt, List.getElem?_toArray, List.getElem?_cons_zero, List.getElem?_cons_succ]
      intro KK hKK
      rw [if_pos (by rfl)]
      go_wp2_with fail
      refine (H3.out wx HJ.out.b).mono ?_; rintro _ w' ⟨g, rfl, hg, hu, hb⟩
      have hj := HJ.out.put1 HK.out hb hg hu
      go_wp2_with fail
      rw [HTl.out]
      exact hKK _ _ ⟨⟨w', hj.b⟩, rfl⟩ (fun x => ∃ y : Calm.On w2.heap.size w2, x = y.1) (fun _ h => h) ⟨⟨w', hj.b⟩, rfl⟩ ⟨x3, _, x9, x10, _, g5, c7, rfl, hj⟩
    · simp only [CalmN.wpSt, List.getElem?_toArray, List.getElem?_cons_zero, List.getElem?_cons_succ]
      intro KK hKK
      rw [if_pos (by rfl)]
      refine mkU_wp (.tmp 8) (.tmp 8) _ rfl Try.underlying29 G.ns.length rfl rfl (by omega) ?_
      intro w' hu hb
      have hj := HJ.out.put5 HK.out hb hu
      exact hKK _ _ ⟨⟨w', hj.b⟩, rfl⟩ (fun x => ∃ y : Calm.On w2.heap.size w2, x = y.1) (fun _ h => h) ⟨⟨w', hj.b⟩, rfl⟩ ⟨x3, x5, _, x10, g1, _, c7, rfl, hj⟩
    · have m1 := HD.out (6, 1) (by simp) rfl
      have m5 := HD.out (6, 5) (by simp) rfl
      obtain ⟨rfl, _⟩ := HJ.out.h1 m1
      obtain ⟨rfl, _⟩ := HJ.out.h5 m5
      have hj := HJ.out.put6 m1 m5
      simp only [CalmN.wpSt, List.getElem?_toArray, List.getElem?_cons_zero, List.getElem?_cons_succ]
      intro KK hKK
      rw [if_pos (by rfl)]
      go_wp2_with fail
      exact hKK _ _ ⟨⟨_, hj.b⟩, rfl⟩ (fun x => ∃ y : Calm.On w2.heap.size w2, x = y.1) (fun _ h => h) ⟨⟨_, hj.b⟩, rfl⟩ ⟨x3, _, _, _, g1, g5, c7, rfl, hj⟩
    · simp only [CalmN.wpSt, List.getElem?_toArray, List.getElem?_cons_zero, List.getElem?_cons_succ]
      intro KK hKK
      rw [if_pos (by rfl)]
      have hj := HJ.out.put7
      go_wp2_with fail
      exact hKK _ _ ⟨⟨_, hj.b⟩, rfl⟩ (fun x => ∃ y : Calm.On w2.heap.size w2, x = y.1) (fun _ h => h) ⟨⟨_, hj.b⟩, rfl⟩ ⟨_, x5, x9, x10, g1, g5, _, rfl, hj⟩
  · intro a wx hJ hS
    obtain ⟨x3, x5, x9, x10, g1, g5, c7, rfl, hJ⟩ := hJ
    obtain ⟨rfl, hg1, hu1⟩ := hJ.h1 (by simp)
    obtain ⟨rfl, hg5, hu5⟩ := hJ.h5 (by simp)
    obtain ⟨_, _, rfl⟩ := hJ.h6 (by simp)
    obtain ⟨rfl, hc7, hu7⟩ := hJ.h7 (by simp)
    have hbx := hJ.b
    clear hS q0 q1 q2 q3 hJ H3
    have l7 := (Array.getElem?_eq_some_iff.1 hu7).1
    have f7 := frozen_of_row wx _ 0 _ _ hu7
    have f8 := frozen_of_row wx _ 1 _ _ hu7
    have k7 := cell_of_row wx _ 0 _ _ _ hu7
    have k8 := cell_of_row wx _ 1 _ _ _ hu7
    simp only [CalmN.wpT, CalmN.wpSt, CalmN.pickOps, List.getElem?_toArray, List.getElem?_cons_zero, List.getElem?_cons_succ]
    repeat (go_big_quiet_step (fail))
    refine wpQuiet_nil ?_
    intro KK hKK
    rw [if_pos (by rfl)]
    go_wp2_with fail
    obtain ⟨wy, hwy⟩ : ∃ y, y = (wx.setCell ⟨c7, 0, none⟩ (.slice (some ⟨g1, 0, none⟩) G.ns.length G.ns.length)).setCell ⟨c7, 1, none⟩ (.slice (some ⟨g5, 0, none⟩) G.ns.length G.ns.length) := ⟨_, rfl⟩
    have hby : Below w2.heap.size w2 wy := by rw [hwy]; exact (hbx.setCell (p := ⟨c7, 0, none⟩) hc7 _).setCell (p := ⟨c7, 1, none⟩) hc7 _
    have hne1 : g1 ≠ c7 := fun e => by subst e; unfold UBO at hu1; rw [hu7] at hu1; injection hu1 with hu1; injection hu1 with _ hu1; cases hu1
    have hne5 : g5 ≠ c7 := fun e => by subst e; unfold UBZ UBU at hu5; rw [hu7] at hu5; injection hu5 with hu5; injection hu5 with _ hu5; cases hu5
    have hne15 : g1 ≠ g5 := fun e => by subst e; unfold UBO at hu1; unfold UBZ UBU at hu5; rw [hu1] at hu5; injection hu5 with hu5; injection hu5 with _ hu5; cases hu5
    have hy1 : UBO wy g1 T := by rw [hwy]; exact UBO.far (UBO.far hu1 hne1 _) hne1 _
    have hy5 : UBZ wy g5 (List.replicate G.ns.length 0) := by rw [hwy]; exact UBZ.far (UBZ.far hu5 hne5 _) hne5 _
    have hy7 : wy.heap[c7]? = some (.cells #[.slice (some ⟨g1, 0, none⟩) G.ns.length G.ns.length, .slice (some ⟨g5, 0, none⟩) G.ns.length G.ns.length] 45 (0, 0)) := by rw [hwy]; exact heap_setCell_same _ c7 1 _ _ _ (heap_setCell_same wx c7 0 _ _ _ hu7)
    rw [← hwy]
    refine hKK _ _ ⟨⟨wy, hby⟩, rfl⟩ (fun x => ∃ y : Calm.On w2.heap.size w2, x = y.1) (fun _ h => h) ⟨⟨wy, hby⟩, rfl⟩ ?_
    clear hKK k7 k8 f7 f8 l7 hwy hu1 hu5 hu7 hbx
    refine wpQuiet_nil ?_
    have u1 := cell_of_row wy _ 1 _ _ _ hy7
    have u2 := (hby.cell (p := ⟨w.heap.size, 2, none⟩) hd1).trans (HS0.out.c 2 _ rfl)
    have lw : w.heap.size < wy.heap.size := Nat.lt_of_lt_of_le hd1 hby.size
    have l7 := (Array.getElem?_eq_some_iff.1 hy7).1
    have hWy : Below w.heap.size w wy := HW2.out.trans (hby.mono (Nat.le_of_lt hd1))
    have hRy : RdRl wy B AR G.rs := HRl.out.keep fun g o hg => hWy.cell (p := ⟨g, o, none⟩) (Nat.lt_of_lt_of_le hg HB.out)
    have hGR := fgrow_any 39 #[.pointer (some ⟨c7, 0, none⟩)] (enter_of Try.func39 (by kernel_rfl) (by kernel_rfl)) G.rs AR cR G.ns.length B g5 G.ns.length wy (List.replicate G.ns.length 0) (FsP G) (Gm.firstN1 T)
      hRy (Nat.le_trans HB.out hWy.size) (by have := HB.out; omega) hy5 (by simp) (FsP.start G) (by have := HR40.out; omega) (fun s x => Gm.NLe.addN _ _ _) (fun s x hx h => by rw [HT.out]; exact h.step HFT.out HOK.out hx) (fun s h => h.2.1)
      (fun y s b x A' c' hG hP hx hr _ => by
        have hkp := (hG.g.block c7 l7 (fun e => by injection e with e; exact hne5 e.symm)).trans hy7
        have h1 : UBO y g1 T := (hG.g.block g1 hy1.lt (fun e => by injection e with e; exact hne15 e)).trans hy1
        exact known1_any wy y g5 G.ns.length G.ns.length c7 G.ts.length s b T (some ⟨g1, 0, none⟩) A' G.ns.length c' B x hG hkp (h1.rd0 h1.lt) HTl.out (fun e => hne5 e.symm) l7 hr (Nat.le_trans HB.out (Nat.le_trans hWy.size hG.g.size)) hP.2.1 (rlIn HFT.out HOK.out hx))
    have HGR := hide hGR
    have HX : Hid (∀ (y : World) (s : List Nat), FsP G s → (∀ x ∈ G.rs, Gm.firstN1 T s x = s) → UBZ y g5 s → wy.grownBy y (some g5) → UBZ y g5 (Gm.fst G) ∧ UBO y g1 T ∧ y.heap[c7]? = some (.cells #[.slice (some ⟨g1, 0, none⟩) G.ns.length G.ns.length, .slice (some ⟨g5, 0, none⟩) G.ns.length G.ns.length] 45 (0, 0)) ∧ Below w2.heap.size w2 y) := hide (fun y s hP hc hu hg => by
      rw [HT.out] at hc
      rw [← Gm.fst_row HOK.out.lin hP.1 hP.2.2 hc]
      exact ⟨hu, (hg.block g1 hy1.lt (fun e => by injection e with e; exact hne15 e)).trans hy1, (hg.block c7 l7 (fun e => by injection e with e; exact hne5 e.symm)).trans hy7, below_only hby hg hg5 hby.size⟩)
    have HGG := hide (And.intro hg1 hg5)
    clear hGR hy1 hy5 hy7 hRy hWy hne1 hne5 hne15 hg1 hg5 hc7 hby hnn
    go_wp2_with fail
    refine HGR.out.mono ?_; rintro _ w4 ⟨rfl, s, hP, hc, hu, hsl, hgr⟩
    obtain ⟨hu5, hu1, hu7, hb4⟩ := HX.out w4 s hP hc hu hgr
    have r0 := cell_of_row w4 _ 0 _ _ _ hu7
    have r1 := cell_of_row w4 _ 1 _ _ _ hu7
    have l74 := (Array.getElem?_eq_some_iff.1 hu7).1
    have hrs := (hb4.block (w.heap.size + 1) (by have := HZ2.out; omega)).trans HRS.out
    have g0 := cell_of_row w4 _ 0 _ _ _ hrs
    have g1' := cell_of_row w4 _ 1 _ _ _ hrs
    have f0 := frozen_of_row w4 _ 0 _ _ hrs
    have f1 := frozen_of_row w4 _ 1 _ _ hrs
    have l4 := (Array.getElem?_eq_some_iff.1 hrs).1
    have HU5 := hide hu5
    have HU1 := hide hu1
    have HB4 := hide hb4
    clear hP hc hu hsl hgr hu5 hu1 hu7 hb4 hrs HX HGR u1 u2 lw l7
    go_wp2_with fail
    refine bodyPost_ret (v := .agg #[.slice (some ⟨g1, 0, none⟩) G.ns.length G.ns.length, .slice (some ⟨g5, 0, none⟩) G.ns.length G.ns.length]) (by simp [results, Try.results16, go_sem, g0, g1']) rfl ?_
    have hne : ∀ g, w2.heap.size ≤ g → g ≠ w.heap.size + 1 := fun g h => by have := HZ2.out; omega
    refine ⟨g1, g5, rfl, by have := HGG.out; have := HZ2.out; omega, by have := HGG.out; have := HZ2.out; omega, ?_, ?_, ?_⟩
    · rw [← HT.out]
      exact UBO.far (UBO.far HU1.out (hne _ HGG.out.1) _) (hne _ HGG.out.1) _
    · exact UBZ.far (UBZ.far HU5.out (hne _ HGG.out.2) _) (hne _ HGG.out.2) _
    · exact ((HW2.out.trans (HB4.out.mono (by have := HZ2.out; omega))).setCell (p := ⟨w.heap.size + 1, 0, none⟩) (by simp) _).setCell (p := ⟨w.heap.size + 1, 1, none⟩) (by simp) _
set_option maxHeartbeats 2000000 in
theorem fst_any (v : Value) (G : Gm.Gr) (B : Nat) (w : World) (hg : RdGr w B v G) (hf : Gm.Fit G) (hB : B ≤ w.heap.size) :
    Calls Try.prog 7 #[v] w (RowZm (Gm.right G) (Gm.fst G) w) := by
  have H1 := hide (fun (x : World) (h : Below w.heap.size w x) => gright_any v G B x (hg.below h hB) hf (Nat.le_trans hB h.size))
  have H2 := hide (fun (q : Gm.right G = true) (x : World) (h : Below w.heap.size w x) => knownOf_any v G B x (hg.below h hB) hf (Gm.right_ok.1 q) (Nat.le_trans hB h.size))
  obtain ⟨AT, cT, AN, cN, AR, cR, rfl, _⟩ := hg
  have HS0 := hide (One.start w #[.slice AT G.ts.length cT, .slice AN G.ns.length cN, .slice AR G.rs.length cR, .int .i64 G.st])
  clear hf
  cases q : Gm.right G
  · rw [q] at H1
    clear q H2
    go_enter Try.func7, Try.ntmps7
    go_wp2_with fail
    refine (H1.out _ HS0.out.below).mono ?_; rintro _ w2 ⟨rfl, hb⟩
    have HB2 := hide (HS0.out.on hb)
    clear hb
    go_wp2
    go_ret
    exact ⟨fun h => by simp at h, fun _ => ⟨rfl, HB2.out.below⟩⟩
  · have H2 := hide (H2.out q)
    rw [q] at H1
    clear q
    go_enter Try.func7, Try.ntmps7
    go_wp2_with fail
    refine (H1.out _ HS0.out.below).mono ?_; rintro _ w2 ⟨rfl, hb⟩
    have HB2 := hide (HS0.out.on hb)
    have q0 := HB2.out.c 0 _ rfl
    have q1 := HB2.out.c 1 _ rfl
    have q2 := HB2.out.c 2 _ rfl
    have q3 := HB2.out.c 3 _ rfl
    have hz2 : w.heap.size < w2.heap.size := HB2.out.size
    clear hb
    go_wp2_with fail
    refine (H2.out _ HB2.out.below).mono ?_; rintro _ w3 ⟨g1, g5, rfl, h1, h5, hu1, hu5, hb3⟩
    have HX := hide (And.intro h5 hu5)
    have HB3 := hide (HB2.out.on hb3)
    clear h1 h5 hu1 hu5 hb3
    have FL := fun (a b : Value) (w : World) => (show (Instr.field 45 (.agg #[a, b]) 1).run Try.prog w = .ok b w from by kernel_rfl)
    go_wp2
    go_ret
    exact ⟨fun _ => ⟨g5, by rw [Gm.fst_len]; rfl, by have := HX.out.1; omega, HX.out.2, HB3.out.below⟩, fun h => by simp at h⟩
end Go.Proofs.Ythjohhcgegcmhaa

namespace Go.Proofs.Ythjohhcgegcmhaa
set_option maxRecDepth 100000
open Go.RowKit

theorem RdI.dropA {w : World} {B c : Nat} {A : Option Addr} {l : List Int} (h : RdI w B A l) (hc : l.length ≤ c) (k : Nat) : RdI w B (dropA A c k) (l.drop k) := by
  intro hn
  rw [List.length_drop] at hn
  obtain ⟨g, o, rfl, hg, hcl⟩ := h (by omega)
  refine ⟨g, o + k, ?_, hg, fun j hj => ?_⟩
  · have e : ((⟨g, o, none⟩ : Addr).add k) = ⟨g, o + k, none⟩ := by unfold Addr.add; by_cases h0 : k = 0 <;> simp [h0]
    unfold Go.Proofs.Ythjohhcgegcmhaa.dropA
    rw [if_neg (by omega), Option.map_some, e]
  · rw [List.length_drop] at hj
    rw [show o + k + j = o + (k + j) by omega, hcl (k + j) (by omega), L.gd_lt (by omega : k + j < l.length), L.gd_lt (by rw [List.length_drop]; exact hj), List.getElem_drop]
theorem sliceI_from (w : World) (A : Option Addr) (c n k : Nat) (hk : k ≤ n) : (Instr.sliceAt 32 (.slice A n c) (some (.int .i64 k)) none none).run Try.prog w = .ok (.slice (dropA A c k) (n - k) (c - k)) w := by
  rw [run_sliceAt_slice _ _ _ _ _ _ (by kernel_rfl), run_slice_l _ _ _ _ _ (by kernel_rfl) .i64 (k : Int) (by omega) (by omega)]
  have hs : (sizeOf (Try.prog.elem 32)).run Try.prog w = .ok 1 w := by kernel_rfl
  rw [hs]
  simp [Result.andThen, sliced, dropA]
theorem Gm.sufs_len : ∀ r : List Int, (Gm.sufs r).length = r.length
  | [] => rfl
  | z :: r => by rw [Gm.sufs, List.length_cons, Gm.sufs_len r, List.length_cons]
theorem Gm.sufs_get : ∀ (r : List Int) (i : Nat) (h : i < r.length), (Gm.sufs r)[i]'(by rw [Gm.sufs_len]; exact h) = (r[i], r.drop (i + 1))
  | z :: r, 0, _ => rfl
  | z :: r, i + 1, h => by
    simp only [Gm.sufs, List.getElem_cons_succ, List.drop_succ_cons]
    exact Gm.sufs_get r i (by simpa using h)
theorem Gm.sufs_take {r : List Int} {i : Nat} (h : i < r.length) (f : List Nat → Int × List Int → List Nat) (s : List Nat) : ((Gm.sufs r).take (i + 1)).foldl f s = f (((Gm.sufs r).take i).foldl f s) (r[i], r.drop (i + 1)) := by
  rw [List.take_succ_eq_append_getElem (by rw [Gm.sufs_len]; exact h), List.foldl_append, Gm.sufs_get r i h]; rfl
theorem Gm.fwN1_le (nu : List Bool) (F : List Nat) (l : Int) (s : List Nat) (y : Int × List Int) : Gm.NLe s (Gm.fwN1 nu F l s y) := by
  unfold Gm.fwN1; split
  · exact Gm.NLe.addN _ _ _
  · exact Gm.NLe.refl _
def OnB3 (a g h : Nat) (w : World) : Type := {x : World // x.heap[a]? = w.heap[a]? ∧ x.heap[g]? = w.heap[g]? ∧ x.heap[h]? = w.heap[h]?}
instance (a g h : Nat) (w : World) : Nonempty (OnB3 a g h w) := ⟨⟨w, rfl, rfl, rfl⟩⟩
theorem Gm.U32.fw {nu : List Bool} {F s : List Nat} {nt nn : Nat} {x : Gm.Rl} (hF : Gm.U32 F) (hs : Gm.U32 s) (hx : RlIn nt nn x) {y : Int × List Int} (hy : y ∈ Gm.sufs x.r) : Gm.U32 (Gm.fwN1 nu F x.l s y) := by
  unfold Gm.fwN1; split
  · refine hs.addN _ (Gm.U32.ofN hF (hs _) fun z hz => ?_)
    obtain ⟨p, e⟩ := Gm.mem_sufs.1 hy
    exact hx.t z (by rw [e]; simp [hz])
  · exact hs

set_option maxHeartbeats 16000000 in
theorem follow1_any (w y : World) (gk n ck kp fp g1 g5 nt : Nat) (s : List Nat) (b : Bool) (nu : List Bool) (F : List Nat) (A' : Option Addr) (c' B : Nat) (x : Gm.Rl) (h : GSt w y gk n ck s b) (hkp : w.heap[kp]? = some (.cells #[.slice (some ⟨g1, 0, none⟩) n n, .slice (some ⟨g5, 0, none⟩) n n] 45 (0, 0)))
    (hfp : w.heap[fp]? = some (.cells #[.slice (some ⟨gk, 0, none⟩) n ck] 29 (0, 0))) (hu1 : UBO w g1 nu) (hu5 : UBZ w g5 F) (hnu : nu.length = n) (hF : F.length = n) (hFu : Gm.U32 F) (h1k : g1 ≠ gk) (h5k : g5 ≠ gk) (hkk : kp ≠ gk) (hfk : fp ≠ gk)
    (hr : RdI y B A' x.r) (hlc : x.r.length ≤ c') (hB : B ≤ w.heap.size) (hBk : B ≤ gk) (hU : Gm.U32 s) (hx : RlIn nt n x) :
    Calls Try.prog 20 #[.agg #[.int .i64 x.l, .slice A' x.r.length c', .int .i64 x.p], .func (Fn.func 41) #[] #[.pointer (some ⟨w.heap.size + 1, 0, none⟩), .pointer (some ⟨w.heap.size, 0, none⟩)], .pointer (some ⟨kp, 0, none⟩), .pointer (some ⟨fp, 0, none⟩)] y fun e w' => e = .returned (.tuple #[]) ∧ GSt w w' gk n ck (Gm.fwNX nu F s x) (b || decide (Gm.fwNX nu F s x ≠ s)) ∧ y.heap.size ≤ w'.heap.size := by
  obtain ⟨y1, hy1⟩ : ∃ z, z = y.alloc (.cells #[.int .i64 x.l, .slice A' x.r.length c', .int .i64 x.p] 34) := ⟨_, rfl⟩
  have hb1 : Below y.heap.size y y1 := by rw [hy1]; exact (Below.refl _ y).alloc (Nat.le_refl _) _
  have hs1 : y1.heap.size = y.heap.size + 1 := by rw [hy1]; simp
  have HBX : Hid (y1.heap[y.heap.size]? = some (.cells #[.int .i64 x.l, .slice A' x.r.length c', .int .i64 x.p] 34 (0, 0))) := hide (by rw [hy1]; exact heap_alloc_new y _)
  have HG1 := hide (h.below hb1)
  have HGY := hide h
  have HSZ := hide hs1
  have HKW := hide (Array.getElem?_eq_some_iff.1 hkp).1
  have HFW := hide (Array.getElem?_eq_some_iff.1 hfp).1
  obtain ⟨l, r, p⟩ := x
  obtain ⟨m, rfl⟩ : ∃ m : Nat, l = (m : Int) := ⟨l.toNat, by have := hx.l0; simp only at this; omega⟩
  simp only at hr HBX hlc ⊢
  have hmn : m < n := by have := hx.l1; simp only at this; omega
  have hr6 : r.length ≤ 6 := hx.c
  obtain ⟨f, hf⟩ : ∃ f, f = Gm.fwN1 nu F (m : Int) := ⟨_, rfl⟩
  have HFX : Hid (Gm.fwNX nu F s ⟨(m : Int), r, p⟩ = (Gm.sufs r).foldl f s) := hide (by rw [hf]; rfl)
  have HLE : Hid (∀ t z, Gm.NLe t (f t z)) := hide (fun t z => by rw [hf]; exact Gm.fwN1_le _ _ _ _ _)
  have HUF : Hid (∀ t z, Gm.U32 t → z ∈ Gm.sufs r → Gm.U32 (f t z)) := hide (fun t z ht hz => by rw [hf]; exact Gm.U32.fw (x := ⟨(m : Int), r, p⟩) hFu ht hx hz)
  have HST : Hid (∀ (t : List Nat) (i : Nat) (hi : i < r.length), ((Gm.sufs r).take (i + 1)).foldl f t = f (((Gm.sufs r).take i).foldl f t) (r[i], r.drop (i + 1))) := hide (fun t i hi => Gm.sufs_take hi f t)
  have HFY : Hid (∀ (t : List Nat) (z : Int) (q : List Int), f t (z, q) = if z < 0 then Gm.addN t (-1 - z).toNat (Gm.ofN nu F (t.getD m 0) q) else t) := hide (fun t z q => by rw [hf]; unfold Gm.fwN1; simp)
  have HMS : Hid (∀ (i : Nat) (hi : i < r.length), (r[i], r.drop (i + 1)) ∈ Gm.sufs r) := hide (fun i hi => by rw [← Gm.sufs_get r i hi]; exact List.getElem_mem _)
  have HKE : Hid (∀ z t b', GSt w z gk n ck t b' → z.heap[kp]? = some (.cells #[.slice (some ⟨g1, 0, none⟩) n n, .slice (some ⟨g5, 0, none⟩) n n] 45 (0, 0)) ∧ z.heap[fp]? = some (.cells #[.slice (some ⟨gk, 0, none⟩) n ck] 29 (0, 0)) ∧ UBO z g1 nu ∧ UBZ z g5 F ∧ RdI z B A' r) := hide (fun z t b' hz =>
    ⟨(hz.g.block kp HKW.out (fun e => by injection e with e; exact hkk e)).trans hkp, (hz.g.block fp HFW.out (fun e => by injection e with e; exact hfk e)).trans hfp, (hz.g.block g1 hu1.lt (fun e => by injection e with e; exact h1k e)).trans hu1, (hz.g.block g5 hu5.lt (fun e => by injection e with e; exact h5k e)).trans hu5,
     hr.keep fun g o hg => (grown_cell hz.g hB hBk hg).trans (grown_cell h.g hB hBk hg).symm⟩)
  have HOF : Hid (∀ (z : World) (t : List Nat) (b' : Bool) (i : Nat), GSt w z gk n ck t b' → Gm.U32 t → i < r.length → Calls Try.prog 23 #[.agg #[.slice (some ⟨g1, 0, none⟩) n n, .slice (some ⟨g5, 0, none⟩) n n], .slice (dropA A' c' (i + 1)) (r.length - (i + 1)) (c' - (i + 1)), .int .u32 ((t.getD m 0 : Nat) : Int)] z fun e w' => e = .returned (.int .u32 (Gm.ofN nu F (t.getD m 0) (r.drop (i + 1)))) ∧ Below z.heap.size z w') := hide (fun z t b' i hz ht hi => by
    obtain ⟨_, _, k3, k4, k5⟩ := HKE.out z t b' hz
    have := kof_any (r.drop (i + 1)) (t.getD m 0) nu F (dropA A' c' (i + 1)) (some ⟨g1, 0, none⟩) (some ⟨g5, 0, none⟩) (c' - (i + 1)) n n B z.heap.size z.heap.size z (k5.dropA hlc (i + 1)) (k3.rd0 k3.lt) (k4.rd k4.lt) (Nat.le_trans hB hz.g.size) (Nat.le_refl _) (Nat.le_refl _) (fun z hz => hx.i z (List.mem_of_mem_drop hz)) (fun z hz => hx.t z (List.mem_of_mem_drop hz)) (fun z hz h => by rw [hF]; exact hx.n z (List.mem_of_mem_drop hz) h) (by rw [hnu, hF]) hFu (ht _) (by rw [List.length_drop]; omega)
    rw [hnu, hF, List.length_drop] at this
    exact this)
  have HVL : Hid (∀ (t : List Nat) (i : Nat), Gm.U32 t → Gm.ofN nu F (t.getD m 0) (r.drop (i + 1)) < 4294967296) := hide (fun t i ht => Gm.U32.ofN hFu (ht _) fun z hz => hx.t z (List.mem_of_mem_drop hz))
  have HXN : Hid (∀ z ∈ r, Gm.In z ∧ (z < 0 → -1 - z < (n : Int))) := hide (fun z hz => ⟨hx.i z hz, hx.n z hz⟩)
  have HNE := hide (And.intro hkk hfk)
  have HUS := hide hU
  have hgw := h.k
  have hyw := h.hs
  have HYW := hide hyw
  have HGW := hide hgw
  have hdx : y.heap.size < y1.heap.size := by omega
  have q1 := cell_of_row y1 _ 1 _ _ _ HBX.out
  have hlen : (r.length : Int) ≤ 9223372036854775807 := by omega
  have HR6 := hide hr6
  have HMN := hide hmn
  clear hf hr hlc hB hBk hU hx hkp hfp hu1 hu5 hnu hF hFu h1k h5k hkk hfk h hb1 hs1 hgw hyw hr6 hmn
  go_enter Try.func20, Try.ntmps20
  go_upto_region 1 with fail
  rw [← hy1]
  clear hy1
  go_wp2
  go_loopw [11] (fun vi wr => ∃ (i : Nat) (t : List Nat) (b1 : Bool), i ≤ r.length ∧ vi = .int .i64 i ∧ Hid (GSt w wr gk n ck t b1) ∧ Hid (t = ((Gm.sufs r).take i).foldl f s) ∧ Hid (b1 = (b || decide (t ≠ s))) ∧ Hid (Gm.U32 t) ∧ Hid (Gm.NLe s t) ∧ Hid (wr.heap[y.heap.size]? = some (.cells #[.int .i64 m, .slice A' r.length c', .int .i64 p] 34 (0, 0))) ∧ Hid (y.heap.size ≤ wr.heap.size)) (fun vi _ => r.length - (intOf vi).toNat)
  case atStart => exact ⟨0, s, b, Nat.zero_le _, rfl, HG1, hide rfl, hide (by simp), HUS, hide (Gm.NLe.refl _), HBX, hide (Nat.le_of_lt hdx)⟩
  case round =>
    obtain ⟨i, t, b1, hi, rfl, HG, HT, HB1, HU, HL, HX, HZ⟩ := hrel
    clear q1
    have hdr : y.heap.size < wr.heap.size := (Array.getElem?_eq_some_iff.1 HX.out).1
    by_cases hlt : i < r.length
    · have HKz := hide (HKE.out wr t b1 HG.out)
      obtain ⟨g, o, hA, hgb, hc⟩ := HKz.out.2.2.2.2 (by omega)
      have k0 := hc i hlt
      rw [L.gd_lt hlt] at k0
      have HZN := hide (HXN.out _ (List.getElem_mem hlt))
      have HS1 := hide (HST.out s i hlt)
      have HF1 := hide (fun t => HFY.out t r[i] (r.drop (i + 1)))
      have HM1 := hide (HMS.out i hlt)
      have HUN := hide (HUF.out t _ HU.out (HMS.out i hlt))
      have HLN := hide (HLE.out t (r[i], r.drop (i + 1)))
      have HI := hide (fun w => fIsNon_any r[i] w)
      have HNN := hide (fun w => fNon_any r[i] HZN.out.1.1 HZN.out.1.2 w)
      subst hA
      clear hc
      generalize r[i] = z at *
      by_cases h0 : z < 0
      · rw [decide_eq_true h0] at HI
        have hzn := HZN.out.2 h0
        obtain ⟨m2, hm2⟩ : ∃ m2 : Nat, -1 - z = (m2 : Int) := ⟨(-1 - z).toNat, by omega⟩
        rw [hm2] at HNN hzn
        have HF2 : Hid (f t (z, r.drop (i + 1)) = Gm.addN t m2 (Gm.ofN nu F (t.getD m 0) (r.drop (i + 1)))) := hide (by rw [HF1.out t, if_pos h0, hm2]; simp)
        have HM2 : Hid (m2 < n) := hide (by omega)
        have hmn2 : (m : Int) < (n : Int) := by have := HMN.out; omega
        have km := HG.out.u.cell m (by rw [HG.out.l]; exact HMN.out)
        have hgk := HG.out.u.lt
        obtain ⟨j, hj⟩ : ∃ j : Nat, j = i + 1 := ⟨_, rfl⟩
        have hwj : IntKind.i64.wrap ((i : Int) + 1) = (j : Int) := by rw [IntWalk.i64_in _ (by have := HR6.out; omega)]; omega
        have S1 := fun w => sliceI_from w (some ⟨g, o, none⟩) c' r.length j (by omega)
        have HOz := hide (fun (z : World) (h : GSt w z gk n ck t b1) => HOF.out z t b1 i h HU.out hlt)
        have HVz := hide (HVL.out t i HU.out)
        rw [← hj] at HOz HVz HF2 HUN HLN
        have HJ := hide hj
        generalize Gm.ofN nu F (t.getD m 0) (r.drop j) = v at *
        have HAD := hide (fun (z : World) (h : GSt w z gk n ck t b1) => gadd_any w z gk n ck t b1 m2 v HM2.out HVz.out HU.out h)
        rw [← HF2.out] at HAD
        have HSN : Hid (f t (z, r.drop j) = ((Gm.sufs r).take (i + 1)).foldl f s) := hide (by rw [HS1.out, ← HT.out, HJ.out])
        generalize f t (z, r.drop j) = t2 at *
        have HB2 : Hid ((b1 || decide (t2 ≠ t)) = (b || decide (t2 ≠ s))) := hide (by rw [HB1.out, Bool.or_assoc, Gm.new_or HL.out HLN.out])
        generalize dropA (some ⟨g, o, none⟩) c' j = D at *
        generalize r.length - j = nd at *
        generalize c' - j = cd at *
        generalize t.getD m 0 = tm at *
        have HKZ2 := hide (HKE.out wr t b1 HG.out)
        have q0 := fun z : OnB3 y.heap.size kp fp wr => cell_of_row z.1 _ 0 _ _ _ (z.2.1.trans HX.out)
        have q1 := fun z : OnB3 y.heap.size kp fp wr => cell_of_row z.1 _ 1 _ _ _ (z.2.1.trans HX.out)
        have q3 := fun z : OnB3 y.heap.size kp fp wr => cell_of_row z.1 _ 0 _ _ _ (z.2.2.1.trans HKZ2.out.1)
        have q4 := fun z : OnB3 y.heap.size kp fp wr => cell_of_row z.1 _ 1 _ _ _ (z.2.2.1.trans HKZ2.out.1)
        have q5 := fun z : OnB3 y.heap.size kp fp wr => cell_of_row z.1 _ 0 _ _ _ (z.2.2.2.trans HKZ2.out.2.1)
        have lk := (Array.getElem?_eq_some_iff.1 HKZ2.out.1).1
        have lf := (Array.getElem?_eq_some_iff.1 HKZ2.out.2.1).1
        clear HKz hzn h0 hm2 hj HOF HVL HF1 HFY HST HS1 HZN
        go_wp2_with fail
        refine (HI.out _).mono ?_; rintro _ wr ⟨rfl, hw3⟩
        subst hw3
        go_upto_region 5 with fail
        refine CalmN.region_tree (fun x => ∃ z : OnB3 y.heap.size kp fp wr, x = z.1) (.two [0, 1, 3, 4, 5, 6, 7, 8, 9, 10, 11, 12] 2 (.one [] 13 (.one [] 14 (.one [] 15 (.fin [])))) 13 (.one [] 2 (.one [] 14 (.one [] 15 (.fin []))))) (by kernel_rfl) (by kernel_rfl) (fun _ _ d _ _ h => by cases d <;> exact h) ⟨⟨wr.drew, rfl, rfl, rfl⟩, rfl⟩ ?_
        rw [CalmN.wpT]
        simp only [CalmN.pickOps, List.getElem?_toArray, List.getElem?_cons_zero, List.getElem?_cons_succ]
        repeat (go_big_quiet_step (fail))
        have hS : ∃ z : OnB3 y.heap.size kp fp wr, wr.drew = z.1 := ⟨⟨wr.drew, rfl, rfl, rfl⟩, rfl⟩
        have HGD : Hid (GSt w wr.drew gk n ck t b1) := hide (HG.out.drewN 1)
        have hbk : ∀ (z : World) t' b', GSt w z gk n ck t' b' → z.heap[y.heap.size]? = wr.heap[y.heap.size]? → ∃ q : OnB3 y.heap.size kp fp wr, z = q.1 := fun z t' b' hz he => ⟨⟨z, he, (HKE.out z t' b' hz).1.trans HKZ2.out.1.symm, (HKE.out z t' b' hz).2.1.trans HKZ2.out.2.1.symm⟩, rfl⟩
        have HBK := hide hbk
        have kmd : wr.drew.cell? ⟨gk, m, none⟩ = some (.int .u32 (tm : Int)) := km
        have HSZd : Hid (wr.drew.heap.size = wr.heap.size) := hide rfl
        have HRE : Hid (∀ i : Nat, wr.drew.heap[i]? = wr.heap[i]?) := hide (fun _ => rfl)
        generalize wr.drew = wd at *
        clear q0 q1 q3 q4 q5 hbk km
        refine wpQuiet_nil ⟨?_, ?_⟩
        case' refine_1 =>
          simp only [CalmN.wpT, CalmN.wpSt, CalmN.pickOps, List.getElem?_toArray, List.getElem?_cons_zero, List.getElem?_cons_succ]
          intro KK hKK
          rw [if_pos (by rfl)]
          go_wp2_with fail
          refine (HNN.out _).mono ?_; rintro _ wz ⟨rfl, hwz⟩
          obtain rfl := hwz.symm
          go_wp2_with fail
          refine hKK _ _ hS (fun x => ∃ z : OnB3 y.heap.size kp fp wr, x = z.1) (fun _ h => h) hS ?_
          clear hKK
          refine wpQuiet_nil ?_
          intro KK hKK
          rw [if_pos (by rfl)]
          go_wp2_with fail
          refine hKK _ _ hS (fun x => ∃ z : OnB3 y.heap.size kp fp wr, x = z.1) (fun _ h => h) hS ?_
          clear hKK
          refine wpQuiet_nil ?_
        case' refine_2 =>
          simp only [CalmN.wpT, CalmN.wpSt, CalmN.pickOps, List.getElem?_toArray, List.getElem?_cons_zero, List.getElem?_cons_succ]
          intro KK hKK
          rw [if_pos (by rfl)]
          go_wp2_with fail
          refine hKK _ _ hS (fun x => ∃ z : OnB3 y.heap.size kp fp wr, x = z.1) (fun _ h => h) hS ?_
          clear hKK
          refine wpQuiet_nil ?_
          intro KK hKK
          rw [if_pos (by rfl)]
          go_wp2_with fail
          refine (HNN.out _).mono ?_; rintro _ wz ⟨rfl, hwz⟩
          obtain rfl := hwz.symm
          go_wp2_with fail
          refine hKK _ _ hS (fun x => ∃ z : OnB3 y.heap.size kp fp wr, x = z.1) (fun _ h => h) hS ?_
          clear hKK
          refine wpQuiet_nil ?_
        all_goals
          intro KK hKK
          rw [if_pos (by rfl)]
          go_wp2_with fail
          refine (HOz.out _ HGD.out).mono ?_; rintro _ w3 ⟨rfl, hb3⟩
          have HG3 := hide (HGD.out.below hb3)
          have hx3 := (hb3.block y.heap.size (by rw [HSZd.out]; exact hdr)).trans (HRE.out _)
          have HX3 := hide hx3
          have HS3 := hide (Nat.le_trans HZ.out (by have := hb3.size; rw [HSZd.out] at this; exact this))
          have hS3 := HBK.out w3 _ _ HG3.out hx3
          clear hb3 hS
          go_wp2_with fail
          refine hKK _ _ hS3 (fun x => ∃ z : OnB3 y.heap.size kp fp wr, x = z.1) (fun _ h => h) hS3 ?_
          clear hKK hS3 hx3
          refine wpQuiet_nil ?_
          intro KK hKK
          rw [if_pos (by rfl)]
          go_wp2_with fail
          refine (HAD.out _ HG3.out).mono ?_; rintro _ w4 ⟨rfl, hg4, hz4, hk4⟩
          have HG4 := hide hg4
          have hx4 := (hk4 y.heap.size (by have := HYW.out; have := HGW.out; omega) (by have := HYW.out; omega)).trans HX3.out
          have HX4 := hide (hx4.trans HX.out)
          have HS4 := hide (show y.heap.size ≤ w4.heap.size by rw [hz4]; exact HS3.out)
          have hS4 := HBK.out w4 _ _ hg4 hx4
          clear hg4 hz4 hk4 hx4
          go_wp2_with fail
          refine hKK _ _ hS4 (fun x => ∃ z : OnB3 y.heap.size kp fp wr, x = z.1) (fun _ h => h) hS4 ?_
          clear hKK hS4
          refine wpQuiet_nil ?_
          go_wp2
          go_roundw
          case rel => exact ⟨i + 1, t2, _, hlt, by rw [HJ.out], HG4, HSN, HB2, HUN, hide (HL.out.trans HLN.out), HX4, HS4⟩
          case measure => have := HJ.out; simp [intOf]; omega
      · rw [decide_eq_false h0] at HI
        have HF2 : Hid (f t (z, r.drop (i + 1)) = t) := hide (by rw [HF1.out t, if_neg h0])
        have HSN : Hid (t = ((Gm.sufs r).take (i + 1)).foldl f s) := hide (by rw [HS1.out, ← HT.out, HF2.out])
        have q1 := cell_of_row wr _ 1 _ _ _ HX.out
        clear HS1 HF1 HF2 HM1 HUN HLN HNN HZN h0
        go_wp2_with fail
        refine (HI.out _).mono ?_; rintro _ wr ⟨rfl, hw3⟩
        subst hw3
        go_wp2
        go_roundw
        case rel => exact ⟨i + 1, t, b1, hlt, by go_num, HG, HSN, HB1, HU, HL, HX, HZ⟩
        case measure => simp [intOf]; omega
    · obtain rfl : i = r.length := by omega
      have e : (Gm.sufs r).take r.length = Gm.sufs r := by rw [← Gm.sufs_len r, List.take_length]
      rw [e] at HT
      go_wp2
      go_end0
      rw [HFX.out, ← HT.out, ← HB1.out]
      exact ⟨rfl, HG.out, HZ.out⟩
end Go.Proofs.Ythjohhcgegcmhaa

namespace Go.Proofs.Ythjohhcgegcmhaa
set_option maxRecDepth 100000
open Go.RowKit

theorem any_take {l : List Int} {p : Int → Bool} {k : Nat} (h : k < l.length) : (l.take (k + 1)).any p = ((l.take k).any p || p l[k]) := by
  rw [List.take_succ_eq_append_getElem h, List.any_append]; simp
theorem any_of {l : List Int} {p : Int → Bool} {k : Nat} (h : k < l.length) (hp : p l[k] = true) : l.any p = true := List.any_eq_true.2 ⟨_, List.getElem_mem h, hp⟩
set_option maxHeartbeats 2000000 in
theorem indexFunc_any (fb : Nat) (cp : Value) (hE : ∀ args w, Sem.run Try.prog (callFunc fb args) w = .ok (.enter fb args) w) (l : List Int) (p : Int → Bool) (A : Option Addr) (c B : Nat) (w : World) (hr : RdI w B A l) (hB : B ≤ w.heap.size) (hl : l.length ≤ 9223372036854775807)
    (hp : ∀ y z, Below w.heap.size w y → z ∈ l → Calls Try.prog fb #[.int .i64 z, cp] y fun e w' => e = .returned (.bool (p z)) ∧ Below y.heap.size y w') :
    Calls Try.prog 45 #[.slice A l.length c, .func (Fn.func fb) #[] #[cp]] w fun e w' => (∃ k : Int, e = .returned (.int .i64 k) ∧ decide (0 ≤ k) = l.any p) ∧ Below w.heap.size w w' := by
  have HR := hide hr
  have HB := hide hB
  have HP := hide hp
  have hlen : (l.length : Int) ≤ 9223372036854775807 := by omega
  clear hr hp hB hl
  go_enter Try.func45, Try.ntmps45
  go_wp2
  go_loopw [8] (fun vi wr => ∃ k : Nat, k ≤ l.length ∧ vi = .int .i64 k ∧ Hid ((l.take k).any p = false) ∧ Hid (Below w.heap.size w wr)) (fun vi _ => l.length - (intOf vi).toNat)
  case atStart => exact ⟨0, Nat.zero_le _, rfl, hide (by simp), hide (Below.refl _ _)⟩
  case round =>
    obtain ⟨k, hk, rfl, HK, HW⟩ := hrel
    by_cases hlt : k < l.length
    · obtain ⟨g, o, rfl, hgb, hc⟩ := HR.out (by omega)
      have k0 := (HW.out.cell (p := ⟨g, o + k, none⟩) (Nat.lt_of_lt_of_le hgb HB.out)).trans (hc k hlt)
      rw [L.gd_lt hlt] at k0
      have HPz := hide (HP.out wr _ HW.out (List.getElem_mem hlt))
      have HN := hide (any_take (p := p) hlt)
      have HY := hide (fun h => any_of (p := p) hlt h)
      clear hc
      generalize l[k] = z at *
      cases hz : p z
      · rw [hz] at HPz HN
        have HX := hide (HN.out.trans (by rw [HK.out]))
        clear hz HN HY
        go_wp2_with fail
        refine HPz.out.mono ?_; rintro _ w2 ⟨rfl, hb⟩
        have HW2 := hide (HW.out.trans (hb.mono HW.out.size))
        clear hb
        go_wp2
        go_roundw
        case rel => exact ⟨k + 1, hlt, by go_num, HX, HW2⟩
        case measure => simp [intOf]; omega
      · rw [hz] at HPz
        have HX := hide (HY.out hz)
        clear hz HN HY
        go_wp2_with fail
        refine HPz.out.mono ?_; rintro _ w2 ⟨rfl, hb⟩
        have HW2 := hide (HW.out.trans (hb.mono HW.out.size))
        clear hb
        go_wp2
        go_ret
        exact ⟨⟨_, rfl, by rw [HX.out, decide_eq_true (by omega)]⟩, HW2.out⟩
    · obtain rfl : k = l.length := by omega
      rw [List.take_length] at HK
      go_wp2
      go_ret
      exact ⟨⟨_, rfl, by rw [HK.out]; rfl⟩, HW.out⟩
theorem containsFunc_any (fb : Nat) (cp : Value) (hE : ∀ args w, Sem.run Try.prog (callFunc fb args) w = .ok (.enter fb args) w) (l : List Int) (p : Int → Bool) (A : Option Addr) (c B : Nat) (w : World) (hr : RdI w B A l) (hB : B ≤ w.heap.size) (hl : l.length ≤ 9223372036854775807)
    (hp : ∀ y z, Below w.heap.size w y → z ∈ l → Calls Try.prog fb #[.int .i64 z, cp] y fun e w' => e = .returned (.bool (p z)) ∧ Below y.heap.size y w') :
    Calls Try.prog 26 #[.slice A l.length c, .func (Fn.func fb) #[] #[cp]] w fun e w' => e = .returned (.bool (l.any p)) ∧ Below w.heap.size w w' := by
  have H := hide (indexFunc_any fb cp hE l p A c B w hr hB hl hp)
  clear hr hB hl hp
  go_enter Try.func26, Try.ntmps26
  go_wp2_with fail
  refine H.out.mono ?_; rintro _ w2 ⟨⟨k, rfl, hk⟩, hb⟩
  have HK := hide hk
  have HB := hide hb
  clear hk hb
  go_wp2
  go_ret
  exact ⟨ret_bool HK.out, HB.out⟩

noncomputable def Gm.ofG (G : Gm.Gr) (l : List Int) (rest : Nat) : Nat := if Gm.right G = true ∧ l.all (Gm.has G) = true then Gm.ofN (Gm.gn false G.rs G.ns.length) (Gm.fst G) rest l else 0
theorem Gm.fst_u32 {G : Gm.Gr} (hok : Gm.Ok G) : Gm.U32 (Gm.fst G) := fun i => by
  have h24 := ((Gm.terms_iff G.ts).1 hok.t).1
  refine Nat.lt_pow_two_of_testBit (n := 32) _ fun t ht => ?_
  cases hb : ((Gm.fst G).getD i 0).testBit t
  · rfl
  · have := Gm.fs_lt hok ((Gm.fst_bit hok.lin i t).1 hb)
    omega
theorem Gm.has_in {G : Gm.Gr} (hok : Gm.Ok G) {z : Int} (h : Gm.has G z = true) : z ≤ 31 ∧ (z < 0 → -1 - z < (G.ns.length : Int)) ∧ z < G.ts.length := by
  have h24 := ((Gm.terms_iff G.ts).1 hok.t).1
  unfold Gm.has at h
  split at h
  · have := of_decide_eq_true h
    exact ⟨by omega, fun h => by omega, this⟩
  · have := of_decide_eq_true h
    exact ⟨by omega, fun _ => this, by omega⟩
theorem lacks_any (G : Gm.Gr) (B : Nat) (z : Int) (hz : Gm.In z) (a : Array Value) (w y : World) (hg : RdGr y B (.agg a) G) (ho : One w a y) :
    Calls Try.prog 24 #[.int .i64 z, .pointer (some ⟨w.heap.size, 0, none⟩)] y fun e w' => e = .returned (.bool (!Gm.has G z)) ∧ Below y.heap.size y w' := by
  have H := hide (has_any (.agg a) G B z hz y hg)
  obtain ⟨AT, cT, AN, cN, AR, cR, hv, _⟩ := hg
  injection hv with hv
  subst hv
  have q0 := ho.c 0 _ rfl
  have q1 := ho.c 1 _ rfl
  have q2 := ho.c 2 _ rfl
  have q3 := ho.c 3 _ rfl
  have hs : w.heap.size < y.heap.size := ho.size
  clear ho
  go_enter Try.func24, Try.ntmps24
  go_wp2_with fail
  refine H.out.mono ?_; rintro _ w2 ⟨rfl, hb⟩
  have HB := hide hb
  clear hb
  go_wp2
  go_ret
  exact ⟨rfl, HB.out⟩
set_option maxHeartbeats 4000000 in
theorem of_any (v : Value) (G : Gm.Gr) (l : List Int) (rest : Nat) (A : Option Addr) (c B : Nat) (w : World) (hg : RdGr w B v G) (hf : Gm.Fit G) (hB : B ≤ w.heap.size) (hr : RdI w B A l) (hin : ∀ z ∈ l, Gm.In z) (hl : l.length ≤ 9223372036854775807) (hrest : rest < 4294967296) :
    Calls Try.prog 9 #[v, .slice A l.length c, .int .u32 rest] w fun e w' => e = .returned (.int .u32 (Gm.ofG G l rest)) ∧ Below w.heap.size w w' := by
  have H1 := hide (fun (x : World) (h : Below w.heap.size w x) => gright_any v G B x (hg.below h hB) hf (Nat.le_trans hB h.size))
  have H2 := hide (fun (q : Gm.right G = true) (x : World) (h : Below w.heap.size w x) => knownOf_any v G B x (hg.below h hB) hf (Gm.right_ok.1 q) (Nat.le_trans hB h.size))
  have HGG := hide (fun (x : World) (h : Below w.heap.size w x) => hg.below h hB)
  have HGV := hide hg
  obtain ⟨AT, cT, AN, cN, AR, cR, rfl, _⟩ := hg
  have HS0 := hide (One.start w #[.slice AT G.ts.length cT, .slice AN G.ns.length cN, .slice AR G.rs.length cR, .int .i64 G.st])
  have H3 := hide (fun (x : World) (h : One w #[.slice AT G.ts.length cT, .slice AN G.ns.length cN, .slice AR G.rs.length cR, .int .i64 G.st] x) => containsFunc_any 24 (.pointer (some ⟨w.heap.size, 0, none⟩)) (enter_of Try.func24 (by kernel_rfl) (by kernel_rfl)) l (fun z => !Gm.has G z) A c B x (hr.below h.below hB) (Nat.le_trans hB h.below.size) hl
    (fun y z hy hz => lacks_any G B z (hin z hz) _ w y (HGG.out y (h.on hy).below) (h.on hy)))
  have HNA : l.any (fun z => !Gm.has G z) = !l.all (Gm.has G) := by rw [List.all_eq_not_any_not]; simp
  rw [HNA] at H3
  have HE : Hid (Gm.ofG G l rest = if Gm.right G = true ∧ l.all (Gm.has G) = true then Gm.ofN (Gm.gn false G.rs G.ns.length) (Gm.fst G) rest l else 0) := hide rfl
  generalize hr0 : Gm.ofG G l rest = r0 at *
  clear hr0 HNA
  cases q : Gm.right G
  · rw [q] at H1
    have HX : Hid (r0 = 0) := hide (by rw [HE.out, q]; rfl)
    clear q H2 H3 hr hf hin hl hrest HE
    go_enter Try.func9, Try.ntmps9
    go_wp2_with fail
    refine (H1.out _ HS0.out.below).mono ?_; rintro _ w2 ⟨rfl, hb⟩
    have HB2 := hide (HS0.out.on hb)
    clear hb
    go_wp2
    go_ret
    exact ⟨by rw [HX.out]; rfl, HB2.out.below⟩
  · have H2 := hide (H2.out q)
    rw [q] at H1
    cases ha : l.all (Gm.has G)
    · rw [ha] at H3
      have HX : Hid (r0 = 0) := hide (by rw [HE.out, ha]; simp)
      clear q H2 hr hf hin hl hrest HE ha
      go_enter Try.func9, Try.ntmps9
      go_wp2_with fail
      refine (H1.out _ HS0.out.below).mono ?_; rintro _ w2 ⟨rfl, hb⟩
      have HB2 := hide (HS0.out.on hb)
      clear hb
      go_wp2_with fail
      refine (H3.out _ HB2.out).mono ?_; rintro _ w3 ⟨rfl, hb⟩
      have HB3 := hide (HB2.out.on hb)
      clear hb
      go_wp2
      go_ret
      exact ⟨by rw [HX.out]; rfl, HB3.out.below⟩
    · rw [ha] at H3
      have hok := Gm.right_ok.1 q
      have HX : Hid (r0 = Gm.ofN (Gm.gn false G.rs G.ns.length) (Gm.fst G) rest l) := hide (by rw [HE.out, if_pos ⟨q, ha⟩])
      have hsy := fun z hz => Gm.has_in hok (List.all_eq_true.1 ha z hz)
      have HKO := hide (fun (x : World) (h : Below w.heap.size w x) (g1 g5 : Nat) (hu1 : UBO x g1 (Gm.gn false G.rs G.ns.length)) (hu5 : UBZ x g5 (Gm.fst G)) => kof_any l rest (Gm.gn false G.rs G.ns.length) (Gm.fst G) A (some ⟨g1, 0, none⟩) (some ⟨g5, 0, none⟩) c G.ns.length G.ns.length B x.heap.size x.heap.size x (hr.below h hB) (hu1.rd0 hu1.lt) (hu5.rd hu5.lt) (Nat.le_trans hB h.size) (Nat.le_refl _) (Nat.le_refl _) hin (fun z hz => (hsy z hz).1) (fun z hz => by rw [Gm.fst_len]; exact (hsy z hz).2.1) (by rw [Gm.fst_len, Gm.gn_len]) (Gm.fst_u32 hok) hrest hl)
      rw [Gm.fst_len, Gm.gn_len] at HKO
      clear q hr hf hin hl hrest HE ha hsy hok
      generalize Gm.ofN (Gm.gn false G.rs G.ns.length) (Gm.fst G) rest l = vv at *
      go_enter Try.func9, Try.ntmps9
      go_wp2_with fail
      refine (H1.out _ HS0.out.below).mono ?_; rintro _ w2 ⟨rfl, hb⟩
      have HB2 := hide (HS0.out.on hb)
      clear hb
      go_wp2_with fail
      refine (H3.out _ HB2.out).mono ?_; rintro _ w3 ⟨rfl, hb⟩
      have HB3 := hide (HB2.out.on hb)
      have q0 := HB3.out.c 0 _ rfl
      have q1 := HB3.out.c 1 _ rfl
      have q2 := HB3.out.c 2 _ rfl
      have q3 := HB3.out.c 3 _ rfl
      have hz3 : w.heap.size < w3.heap.size := HB3.out.size
      clear hb
      go_wp2_with fail
      refine (H2.out _ HB3.out.below).mono ?_; rintro _ w4 ⟨g1, g5, rfl, h1, h5, hu1, hu5, hb4⟩
      have HB4 := hide (HB3.out.on hb4)
      have HK4 := hide (HKO.out w4 HB4.out.below g1 g5 hu1 hu5)
      clear hu1 hu5 hb4 h1 h5
      go_wp2_with fail
      refine HK4.out.mono ?_; rintro _ w5 ⟨rfl, hb⟩
      have HB5 := hide (HB4.out.on hb)
      clear hb
      go_wp2
      go_ret
      exact ⟨by rw [HX.out]; rfl, HB5.out.below⟩
end Go.Proofs.Ythjohhcgegcmhaa

namespace Go.Proofs.Ythjohhcgegcmhaa
set_option maxRecDepth 100000
open Go.RowKit

structure JF (w2 : World) (n : Nat) (T : List Bool) (F : List Nat) (todo : List Nat) (wx : World) (x9 x13 x3 x4 : Value) (g1 h5 g5 c6 c7 : Nat) : Prop where
  t : ∀ k ∈ todo, k = 1 ∨ k = 5 ∨ k = 6 ∨ k = 7 ∨ k = 8
  nd : todo.Nodup
  b : Below w2.heap.size w2 wx
  h1 : 1 ∉ todo → x9 = .agg #[.slice (some ⟨g1, 0, none⟩) n n, .slice (some ⟨h5, 0, none⟩) n n] ∧ w2.heap.size ≤ g1 ∧ w2.heap.size ≤ h5 ∧ UBO wx g1 T ∧ UBZ wx h5 F
  m : 5 ∉ todo → x13 = .slice (some ⟨g5, 0, none⟩) n n ∧ w2.heap.size ≤ g5 ∧ UBZ wx g5 (List.replicate n 0)
  h6 : 6 ∉ todo → x3 = .pointer (some ⟨c6, 0, none⟩) ∧ w2.heap.size ≤ c6 ∧ (8 ∈ todo → wx.heap[c6]? = some (.cells #[.slice none 0 0, .slice none 0 0] 45 (0, 0)))
  h7 : 7 ∉ todo → x4 = .pointer (some ⟨c7, 0, none⟩) ∧ w2.heap.size ≤ c7 ∧ wx.heap[c7]? = some (.cells #[.slice none 0 0] 29 (0, 0))
  h8 : 8 ∉ todo → 1 ∉ todo ∧ 6 ∉ todo ∧ wx.heap[c6]? = some (.cells #[.slice (some ⟨g1, 0, none⟩) n n, .slice (some ⟨h5, 0, none⟩) n n] 45 (0, 0))
  d : 1 ∉ todo → 5 ∉ todo → h5 ≠ g5
section
variable {w2 wx w' : World} {n : Nat} {T : List Bool} {F : List Nat} {todo : List Nat} {x9 x13 x3 x4 : Value} {g1 h5 g5 c6 c7 : Nat}
theorem not_e {j k : Nat} (q : j ∉ todo.erase k) (h : (j == k) = false := by decide) : j ∉ todo := not_erase q (by simpa using h)
theorem JF.put1 (h : JF w2 n T F todo wx x9 x13 x3 x4 g1 h5 g5 c6 c7) (hm : 1 ∈ todo) (hb : Below wx.heap.size wx w') {a b : Nat} (ha : wx.heap.size ≤ a) (hbb : wx.heap.size ≤ b) (hu : UBO w' a T) (hv : UBZ w' b F) : JF w2 n T F (todo.erase 1) w' (.agg #[.slice (some ⟨a, 0, none⟩) n n, .slice (some ⟨b, 0, none⟩) n n]) x13 x3 x4 a b g5 c6 c7 where
  t k hk := h.t k (List.mem_of_mem_erase hk)
  nd := h.nd.erase _
  b := h.b.trans (hb.mono h.b.size)
  h1 _ := ⟨rfl, Nat.le_trans h.b.size ha, Nat.le_trans h.b.size hbb, hu, hv⟩
  m q := by obtain ⟨a1, a2, a3⟩ := h.m (not_e q); exact ⟨a1, a2, heap_keep hb a3⟩
  h6 q := by obtain ⟨a1, a2, a3⟩ := h.h6 (not_e q); exact ⟨a1, a2, fun r => heap_keep hb (a3 (List.mem_of_mem_erase r))⟩
  h7 q := by obtain ⟨a1, a2, a3⟩ := h.h7 (not_e q); exact ⟨a1, a2, heap_keep hb a3⟩
  h8 q := absurd hm (h.h8 (not_e q)).1
  d _ q := by have := (h.m (not_e q)).2.2.lt; omega
theorem JF.put5 (h : JF w2 n T F todo wx x9 x13 x3 x4 g1 h5 g5 c6 c7) (hb : Below wx.heap.size wx w') (hu : UBZ w' wx.heap.size (List.replicate n 0)) : JF w2 n T F (todo.erase 5) w' x9 (.slice (some ⟨wx.heap.size, 0, none⟩) n n) x3 x4 g1 h5 wx.heap.size c6 c7 where
  t k hk := h.t k (List.mem_of_mem_erase hk)
  nd := h.nd.erase _
  b := h.b.trans (hb.mono h.b.size)
  h1 q := by obtain ⟨a1, a2, a3, a4, a5⟩ := h.h1 (not_e q); exact ⟨a1, a2, a3, heap_keep hb a4, heap_keep hb a5⟩
  m _ := ⟨rfl, h.b.size, hu⟩
  h6 q := by obtain ⟨a1, a2, a3⟩ := h.h6 (not_e q); exact ⟨a1, a2, fun r => heap_keep hb (a3 (List.mem_of_mem_erase r))⟩
  h7 q := by obtain ⟨a1, a2, a3⟩ := h.h7 (not_e q); exact ⟨a1, a2, heap_keep hb a3⟩
  h8 q := by obtain ⟨a1, a2, a3⟩ := h.h8 (not_e q); exact ⟨fun r => a1 (List.mem_of_mem_erase r), fun r => a2 (List.mem_of_mem_erase r), heap_keep hb a3⟩
  d q _ := by have := (h.h1 (not_e q)).2.2.2.2.lt; omega
theorem JF.put6 (h : JF w2 n T F todo wx x9 x13 x3 x4 g1 h5 g5 c6 c7) (hm : 6 ∈ todo) : JF w2 n T F (todo.erase 6) (wx.alloc (.cells #[.slice none 0 0, .slice none 0 0] 45)) x9 x13 (.pointer (some ⟨wx.heap.size, 0, none⟩)) x4 g1 h5 g5 wx.heap.size c7 where
  t k hk := h.t k (List.mem_of_mem_erase hk)
  nd := h.nd.erase _
  b := h.b.alloc h.b.size _
  h1 q := by obtain ⟨a1, a2, a3, a4, a5⟩ := h.h1 (not_e q); exact ⟨a1, a2, a3, UBO.alloc a4 _, UBZ.alloc a5 _⟩
  m q := by obtain ⟨a1, a2, a3⟩ := h.m (not_e q); exact ⟨a1, a2, UBZ.alloc a3 _⟩
  h6 _ := ⟨rfl, h.b.size, fun _ => heap_alloc_new wx _⟩
  h7 q := by obtain ⟨a1, a2, a3⟩ := h.h7 (not_e q); exact ⟨a1, a2, heap_keep ((Below.refl _ wx).alloc (Nat.le_refl _) _) a3⟩
  h8 q := absurd hm (h.h8 (not_e q)).2.1
  d q r := h.d (not_e q) (not_e r)
theorem JF.put7 (h : JF w2 n T F todo wx x9 x13 x3 x4 g1 h5 g5 c6 c7) : JF w2 n T F (todo.erase 7) (wx.alloc (.cells #[.slice none 0 0] 29)) x9 x13 x3 (.pointer (some ⟨wx.heap.size, 0, none⟩)) g1 h5 g5 c6 wx.heap.size where
  t k hk := h.t k (List.mem_of_mem_erase hk)
  nd := h.nd.erase _
  b := h.b.alloc h.b.size _
  h1 q := by obtain ⟨a1, a2, a3, a4, a5⟩ := h.h1 (not_e q); exact ⟨a1, a2, a3, UBO.alloc a4 _, UBZ.alloc a5 _⟩
  m q := by obtain ⟨a1, a2, a3⟩ := h.m (not_e q); exact ⟨a1, a2, UBZ.alloc a3 _⟩
  h6 q := by obtain ⟨a1, a2, a3⟩ := h.h6 (not_e q); exact ⟨a1, a2, fun r => heap_keep ((Below.refl _ wx).alloc (Nat.le_refl _) _) (a3 (List.mem_of_mem_erase r))⟩
  h7 _ := ⟨rfl, h.b.size, heap_alloc_new wx _⟩
  h8 q := by obtain ⟨a1, a2, a3⟩ := h.h8 (not_e q); exact ⟨fun r => a1 (List.mem_of_mem_erase r), fun r => a2 (List.mem_of_mem_erase r), heap_keep ((Below.refl _ wx).alloc (Nat.le_refl _) _) a3⟩
  d q r := h.d (not_e q) (not_e r)
theorem ne_cells {w : World} {a b : Nat} {cs ds : Array Value} {t u : TypeId} {p q : Nat × Nat} (ha : w.heap[a]? = some (.cells cs t p)) (hb : w.heap[b]? = some (.cells ds u q)) (h : (t == u) = false) : a ≠ b := by
  rintro rfl
  rw [ha] at hb
  injection hb with hb
  injection hb with _ hb
  subst hb
  simp at h
theorem JF.put8 (h : JF w2 n T F todo wx x9 x13 x3 x4 g1 h5 g5 c6 c7) (hm : 8 ∈ todo) (m1 : 1 ∉ todo) (m6 : 6 ∉ todo) : JF w2 n T F (todo.erase 8) ((wx.setCell ⟨c6, 0, none⟩ (.slice (some ⟨g1, 0, none⟩) n n)).setCell ⟨c6, 1, none⟩ (.slice (some ⟨h5, 0, none⟩) n n)) x9 x13 x3 x4 g1 h5 g5 c6 c7 where
  t k hk := h.t k (List.mem_of_mem_erase hk)
  nd := h.nd.erase _
  b := (h.b.setCell (p := ⟨c6, 0, none⟩) (h.h6 m6).2.1 _).setCell (p := ⟨c6, 1, none⟩) (h.h6 m6).2.1 _
  h1 q := by
    have hc := (h.h6 m6).2.2 hm
    obtain ⟨a1, a2, a3, a4, a5⟩ := h.h1 (not_e q)
    exact ⟨a1, a2, a3, UBO.far (UBO.far a4 (ne_cells a4 hc (by decide)) _) (ne_cells a4 hc (by decide)) _, UBZ.far (UBZ.far a5 (ne_cells a5 hc (by decide)) _) (ne_cells a5 hc (by decide)) _⟩
  m q := by
    have hc := (h.h6 m6).2.2 hm
    obtain ⟨a1, a2, a3⟩ := h.m (not_e q)
    exact ⟨a1, a2, UBZ.far (UBZ.far a3 (ne_cells a3 hc (by decide)) _) (ne_cells a3 hc (by decide)) _⟩
  h6 q := by obtain ⟨a1, a2, a3⟩ := h.h6 m6; exact ⟨a1, a2, fun r => absurd r h.nd.not_mem_erase⟩
  h7 q := by
    have hc := (h.h6 m6).2.2 hm
    obtain ⟨a1, a2, a3⟩ := h.h7 (not_e q)
    have hne : c7 ≠ c6 := ne_cells a3 hc (by decide)
    exact ⟨a1, a2, (Below.heap_setCell _ ⟨c6, 1, none⟩ _ c7 hne).trans ((Below.heap_setCell wx ⟨c6, 0, none⟩ _ c7 hne).trans a3)⟩
  h8 _ := ⟨fun r => m1 (List.mem_of_mem_erase r), fun r => m6 (List.mem_of_mem_erase r), heap_setCell_same _ c6 1 _ _ _ (heap_setCell_same wx c6 0 _ _ _ ((h.h6 m6).2.2 hm))⟩
  d q r := h.d (not_e q) (not_e r)
end
structure FwP (G : Gm.Gr) (s : List Nat) : Prop where
  l : s.length = G.ns.length
  u : Gm.U32 s
  sd : ∀ i t : Nat, (s.getD i 0).testBit t = true → Gm.Fw G t (i : Int)
  e : (s.getD G.st.toNat 0).testBit G.ts.length = true
theorem FwP.start {G : Gm.Gr} (hok : Gm.Ok G) : FwP G (Gm.flw0 G) := by
  refine ⟨by unfold Gm.flw0; simp, fun i => ?_, fun i t h => Gm.flw0_snd hok i t h, Gm.flw0_st hok⟩
  have h24 := ((Gm.terms_iff G.ts).1 hok.t).1
  refine Nat.lt_pow_two_of_testBit (n := 32) _ fun t ht => ?_
  cases hb : ((Gm.flw0 G).getD i 0).testBit t
  · rfl
  · have := Gm.fw_le hok (Gm.flw0_snd hok i t hb)
    omega
theorem FwP.step {G : Gm.Gr} (hf : Gm.Fit G) (hok : Gm.Ok G) {x : Gm.Rl} (hx : x ∈ G.rs) : ∀ (ys : List (Int × List Int)) (s : List Nat), (∀ y ∈ ys, y ∈ Gm.sufs x.r) → FwP G s → FwP G (ys.foldl (Gm.fwN1 (Gm.gn false G.rs G.ns.length) (Gm.fst G) x.l) s)
  | [], _, _, h => h
  | y :: ys, s, hy, h => by
    refine FwP.step hf hok hx ys _ (fun z hz => hy z (List.mem_cons_of_mem _ hz)) ⟨?_, ?_, fun i t hb => Gm.flw_step hok h.sd hx (hy y (List.mem_cons_self ..)) i t hb, ?_⟩
    · rw [Gm.fwN1_len]; exact h.l
    · exact Gm.U32.fw (Gm.fst_u32 hok) h.u (rlIn hf hok hx) (hy y (List.mem_cons_self ..))
    · unfold Gm.fwN1; split
      · exact (Gm.addN_bit _ _ _ _ _).2 (.inl h.e)
      · exact h.e
theorem Gm.fwNX_le (nu : List Bool) (F s : List Nat) (x : Gm.Rl) : Gm.NLe s (Gm.fwNX nu F s x) := Gm.NLe.fold (Gm.fwN1_le nu F x.l) _ s

set_option maxHeartbeats 16000000 in
theorem follow_any (v : Value) (G : Gm.Gr) (B : Nat) (w : World) (hg : RdGr w B v G) (hf : Gm.Fit G) (hB : B ≤ w.heap.size) :
    Calls Try.prog 8 #[v] w (RowZm (Gm.right G) (Gm.flw G) w) := by
  have H1 := hide (fun (x : World) (h : Below w.heap.size w x) => gright_any v G B x (hg.below h hB) hf (Nat.le_trans hB h.size))
  have H2 := hide (fun (q : Gm.right G = true) (x : World) (h : Below w.heap.size w x) => knownOf_any v G B x (hg.below h hB) hf (Gm.right_ok.1 q) (Nat.le_trans hB h.size))
  have HED := hide (fun (x : World) (h : Below w.heap.size w x) => fEnd_any v G B x (hg.below h hB))
  obtain ⟨AT, cT, AN, cN, AR, cR, rfl, _, ⟨hlN, hmN⟩, _, _, _, hR⟩ := hg
  have HS0 := hide (One.start w #[.slice AT G.ts.length cT, .slice AN G.ns.length cN, .slice AR G.rs.length cR, .int .i64 G.st])
  have HRl := hide hR
  have HB := hide hB
  have HFT := hide hf
  clear hf hR hB
  cases q : Gm.right G
  · rw [q] at H1
    clear q H2
    go_enter Try.func8, Try.ntmps8
    go_wp2_with fail
    refine (H1.out _ HS0.out.below).mono ?_; rintro _ w2 ⟨rfl, hb⟩
    have HB2 := hide (HS0.out.on hb)
    clear hb
    go_wp2
    go_ret
    exact ⟨fun h => by simp at h, fun _ => ⟨rfl, HB2.out.below⟩⟩
  · have HOK := hide (Gm.right_ok.1 q)
    have HN : Hid (G.ns.length ≤ 40) := hide (by have := (Gm.nons_iff G).1 HOK.out.n; omega)
    have HR40 : Hid (G.rs.length ≤ 40) := hide HOK.out.r40
    have H2 := hide (H2.out q)
    rw [q] at H1
    clear q
    have hnn := HN.out
    have hlen : (G.ns.length : Int) ≤ 9223372036854775807 := by omega
    go_enter Try.func8, Try.ntmps8
    go_upto_region 3 with fail
    refine (H1.out _ HS0.out.below).mono ?_; rintro _ w2 ⟨rfl, hb⟩
    have HB2 := hide (HS0.out.on hb)
    clear hb
    go_upto_region 3 with fail
    have HW2 : Hid (Below w.heap.size w w2) := hide HB2.out.below
    have HBX := hide ((Below.block HB2.out w.heap.size (by omega)).trans (heap_alloc_new w _))
    have hd1 : w.heap.size < w2.heap.size := HB2.out.size
    have HF := hide (Gm.fst_u32 HOK.out)
    obtain ⟨T, hT⟩ : ∃ x, x = Gm.gn false G.rs G.ns.length := ⟨_, rfl⟩
    have HTl : Hid (T.length = G.ns.length) := hide (by rw [hT, Gm.gn_len])
    have HT := hide hT
    have H3 := hide (fun (x : World) (h : Below w2.heap.size w2 x) => H2.out x (HW2.out.trans (h.mono (Nat.le_of_lt hd1))))
    have HED := hide (fun (x : World) (h : Below w2.heap.size w2 x) => HED.out x (HW2.out.trans (h.mono (Nat.le_of_lt hd1))))
    have q0 := fun y : Calm.On w2.heap.size w2 => (y.2.cell (p := ⟨w.heap.size, 0, none⟩) hd1).trans (HB2.out.c 0 _ rfl)
    have q1 := fun y : Calm.On w2.heap.size w2 => (y.2.cell (p := ⟨w.heap.size, 1, none⟩) hd1).trans (HB2.out.c 1 _ rfl)
    have q2 := fun y : Calm.On w2.heap.size w2 => (y.2.cell (p := ⟨w.heap.size, 2, none⟩) hd1).trans (HB2.out.c 2 _ rfl)
    have q3 := fun y : Calm.On w2.heap.size w2 => (y.2.cell (p := ⟨w.heap.size, 3, none⟩) hd1).trans (HB2.out.c 3 _ rfl)
    unfold KnAns at H3
    rw [← hT] at H3
    obtain ⟨F, hFe⟩ : ∃ F, F = Gm.fst G := ⟨_, rfl⟩
    have HFl : Hid (F.length = G.ns.length) := hide (by rw [hFe, Gm.fst_len])
    rw [← hFe] at HF H3
    have HFE := hide hFe
    clear H1 HS0 H2 hT hFe
    refine CalmN.region_dep (fun x => ∃ y : Calm.On w2.heap.size w2, x = y.1) [0, 2, 3, 4] [1, 5, 6, 7, 8] [(8, 1), (8, 6)] (.one [] 9 (.fin []))
      (fun todo a wx => ∃ x9 x13 x3 x4 g1 h5 g5 c6 c7, a = { tmps := #[.agg #[.slice AT G.ts.length cT, .slice AN G.ns.length cN, .slice AR G.rs.length cR, .int .i64 G.st], .pointer (some ⟨w.heap.size, 0, none⟩), .slice none 0 0, x3, x4, .agg #[.slice AT G.ts.length cT, .slice AN G.ns.length cN, .slice AR G.rs.length cR, .int .i64 G.st], .bool true, .bool false, .agg #[.slice AT G.ts.length cT, .slice AN G.ns.length cN, .slice AR G.rs.length cR, .int .i64 G.st], x9, .pointer (some ⟨w.heap.size, 1, none⟩), .slice AN G.ns.length cN, .int .i64 G.ns.length, x13, undef, undef, undef, undef, undef, undef, undef, undef, undef, undef, undef, undef, undef], defers := [] } ∧ JF w2 G.ns.length T F todo wx x9 x13 x3 x4 g1 h5 g5 c6 c7)
      (by kernel_rfl) (by kernel_rfl) (fun _ _ d _ _ h => by cases d <;> exact h) ⟨⟨w2.drew, below_drewN (Below.refl _ _) 1⟩, rfl⟩ ?_ ?_ ?_
    · simp only [CalmN.pickOps, List.getElem?_toArray, List.getElem?_cons_zero, List.getElem?_cons_succ]
      repeat (go_big_quiet_step (fail))
      refine wpQuiet_nil ?_
      exact ⟨undef, undef, undef, undef, 0, 0, 0, 0, 0, rfl, ⟨by simp, by decide, below_drewN (Below.refl _ _) 1, fun h => absurd (by simp) h, fun h => absurd (by simp) h, fun h => absurd (by simp) h, fun h => absurd (by simp) h, fun h => absurd (by simp) h, fun h => absurd (by simp) h⟩⟩
    · intro todo k a wx hk hD hJ hS
      obtain ⟨x9, x13, x3, x4, g1, h5, g5, c6, c7, rfl, hJ⟩ := hJ
      have HJ := hide hJ
      have hcase := hJ.t k hk
      have HK := hide hk
      have HD := hide hD
      clear hJ hS hk hD q0 q1 q2 q3
      rcases hcase with rfl | rfl | rfl | rfl | rfl
      · simp only [CalmN.wpSt, List.getElem?_toArray, List.getElem?_cons_zero, List.getElem?_cons_succ]
        intro KK hKK
        rw [if_pos (by rfl)]
        go_wp2_with fail
        refine (H3.out wx HJ.out.b).mono ?_; rintro _ w' ⟨a, b, rfl, ha, hbb, hu, hv, hb⟩
        have hj := HJ.out.put1 HK.out hb ha hbb hu hv
        go_wp2_with fail
        exact hKK _ _ ⟨⟨w', hj.b⟩, rfl⟩ (fun x => ∃ y : Calm.On w2.heap.size w2, x = y.1) (fun _ h => h) ⟨⟨w', hj.b⟩, rfl⟩ ⟨_, x13, x3, x4, a, b, g5, c6, c7, rfl, hj⟩
      · simp only [CalmN.wpSt, List.getElem?_toArray, List.getElem?_cons_zero, List.getElem?_cons_succ]
        intro KK hKK
        rw [if_pos (by rfl)]
        refine mkU_wp (.tmp 12) (.tmp 12) _ rfl Try.underlying29 G.ns.length rfl rfl (by omega) ?_
        intro w' hu hb
        have hj := HJ.out.put5 hb hu
        exact hKK _ _ ⟨⟨w', hj.b⟩, rfl⟩ (fun x => ∃ y : Calm.On w2.heap.size w2, x = y.1) (fun _ h => h) ⟨⟨w', hj.b⟩, rfl⟩ ⟨x9, _, x3, x4, g1, h5, _, c6, c7, rfl, hj⟩
      · simp only [CalmN.wpSt, List.getElem?_toArray, List.getElem?_cons_zero, List.getElem?_cons_succ]
        intro KK hKK
        rw [if_pos (by rfl)]
        have hj := HJ.out.put6 HK.out
        go_wp2_with fail
        exact hKK _ _ ⟨⟨_, hj.b⟩, rfl⟩ (fun x => ∃ y : Calm.On w2.heap.size w2, x = y.1) (fun _ h => h) ⟨⟨_, hj.b⟩, rfl⟩ ⟨x9, x13, _, x4, g1, h5, g5, _, c7, rfl, hj⟩
      · simp only [CalmN.wpSt, List.getElem?_toArray, List.getElem?_cons_zero, List.getElem?_cons_succ]
        intro KK hKK
        rw [if_pos (by rfl)]
        have hj := HJ.out.put7
        go_wp2_with fail
        exact hKK _ _ ⟨⟨_, hj.b⟩, rfl⟩ (fun x => ∃ y : Calm.On w2.heap.size w2, x = y.1) (fun _ h => h) ⟨⟨_, hj.b⟩, rfl⟩ ⟨x9, x13, x3, _, g1, h5, g5, c6, _, rfl, hj⟩
      · have m1 := HD.out (8, 1) (by simp) rfl
        have m6 := HD.out (8, 6) (by simp) rfl
        obtain ⟨rfl, _⟩ := HJ.out.h1 m1
        obtain ⟨rfl, _, hc⟩ := HJ.out.h6 m6
        have hc := hc HK.out
        have hj := HJ.out.put8 HK.out m1 m6
        have l7 := (Array.getElem?_eq_some_iff.1 hc).1
        have f7 := frozen_of_row wx _ 0 _ _ hc
        have f8 := frozen_of_row wx _ 1 _ _ hc
        have k7 := cell_of_row wx _ 0 _ _ _ hc
        have k8 := cell_of_row wx _ 1 _ _ _ hc
        have HJ2 := hide hj
        clear hj hc
        simp only [CalmN.wpSt, List.getElem?_toArray, List.getElem?_cons_zero, List.getElem?_cons_succ]
        intro KK hKK
        rw [if_pos (by rfl)]
        go_wp2_with fail
        exact hKK _ _ ⟨⟨_, HJ2.out.b⟩, rfl⟩ (fun x => ∃ y : Calm.On w2.heap.size w2, x = y.1) (fun _ h => h) ⟨⟨_, HJ2.out.b⟩, rfl⟩ ⟨_, x13, _, x4, g1, h5, g5, c6, c7, rfl, HJ2.out⟩
    · intro a wx hJ hS
      obtain ⟨x9, x13, x3, x4, g1, h5, g5, c6, c7, rfl, hJ⟩ := hJ
      obtain ⟨rfl, hg1, hh5, hu1, hu5⟩ := hJ.h1 (by simp)
      obtain ⟨rfl, hg5, hm5⟩ := hJ.m (by simp)
      obtain ⟨rfl, hc6, _⟩ := hJ.h6 (by simp)
      obtain ⟨rfl, hc7, hu7⟩ := hJ.h7 (by simp)
      obtain ⟨_, _, hu6⟩ := hJ.h8 (by simp)
      have hd5 := hJ.d (by simp) (by simp)
      have hbx := hJ.b
      clear hS q0 q1 q2 q3 hJ H3
      have l7 := (Array.getElem?_eq_some_iff.1 hu7).1
      have f7 := frozen_of_row wx _ 0 _ _ hu7
      have k7 := cell_of_row wx _ 0 _ _ _ hu7
      have n17 : g1 ≠ c7 := ne_cells hu1 hu7 (by decide)
      have n57 : h5 ≠ c7 := ne_cells hu5 hu7 (by decide)
      have n67 : c6 ≠ c7 := ne_cells hu6 hu7 (by decide)
      have ng7 : g5 ≠ c7 := ne_cells hm5 hu7 (by decide)
      have n1g : g1 ≠ g5 := ne_cells hu1 hm5 (by decide)
      have n6g : c6 ≠ g5 := ne_cells hu6 hm5 (by decide)
      obtain ⟨wy, hwy⟩ : ∃ y, y = wx.setCell ⟨c7, 0, none⟩ (.slice (some ⟨g5, 0, none⟩) G.ns.length G.ns.length) := ⟨_, rfl⟩
      have hby : Below w2.heap.size w2 wy := by rw [hwy]; exact hbx.setCell (p := ⟨c7, 0, none⟩) hc7 _
      have hy1 : UBO wy g1 T := by rw [hwy]; exact UBO.far hu1 n17 _
      have hy5 : UBZ wy h5 F := by rw [hwy]; exact UBZ.far hu5 n57 _
      have hyg : UBZ wy g5 (List.replicate G.ns.length 0) := by rw [hwy]; exact UBZ.far hm5 ng7 _
      have hy6 : wy.heap[c6]? = some (.cells #[.slice (some ⟨g1, 0, none⟩) G.ns.length G.ns.length, .slice (some ⟨h5, 0, none⟩) G.ns.length G.ns.length] 45 (0, 0)) := by rw [hwy]; exact (Below.heap_setCell wx ⟨c7, 0, none⟩ _ c6 n67).trans hu6
      have hy7 : wy.heap[c7]? = some (.cells #[.slice (some ⟨g5, 0, none⟩) G.ns.length G.ns.length] 29 (0, 0)) := by rw [hwy]; exact heap_setCell_same wx c7 0 _ _ _ hu7
      have HNE := hide (And.intro hd5 (And.intro n1g (And.intro n6g (And.intro ng7 (And.intro hg5 (And.intro hc7 hby))))))
      clear hu1 hu5 hm5 hu6 hu7 hbx n17 n57 n67 n1g n6g hd5
      simp only [CalmN.wpT, CalmN.wpSt, CalmN.pickOps, List.getElem?_toArray, List.getElem?_cons_zero, List.getElem?_cons_succ]
      refine wpQuiet_nil ?_
      intro KK hKK
      rw [if_pos (by rfl)]
      go_wp2_with fail
      rw [← hwy]
      refine hKK _ _ ⟨⟨wy, hby⟩, rfl⟩ (fun x => ∃ y : Calm.On w2.heap.size w2, x = y.1) (fun _ h => h) ⟨⟨wy, hby⟩, rfl⟩ ?_
      clear hKK k7 f7 l7 hwy
      refine wpQuiet_nil ?_
      have hgx := (hby.block w.heap.size hd1).trans HBX.out
      have hst := HOK.out.s0
      have hst1 := HOK.out.s1
      obtain ⟨m, hm⟩ : ∃ m : Nat, G.st = (m : Int) := ⟨G.st.toNat, by omega⟩
      have HM := hide hm
      have q0 := fun z : OnB2 c7 w.heap.size wy => cell_of_row z.1 _ 0 _ _ _ (z.2.2.trans hgx)
      have q1 := fun z : OnB2 c7 w.heap.size wy => cell_of_row z.1 _ 1 _ _ _ (z.2.2.trans hgx)
      have q2 := fun z : OnB2 c7 w.heap.size wy => cell_of_row z.1 _ 2 _ _ _ (z.2.2.trans hgx)
      have q3 := fun z : OnB2 c7 w.heap.size wy => cell_of_row z.1 _ 3 _ _ _ (z.2.2.trans hgx)
      have q7 := fun z : OnB2 c7 w.heap.size wy => cell_of_row z.1 _ 0 _ _ _ (z.2.1.trans hy7)
      have lw : w.heap.size < wy.heap.size := Nat.lt_of_lt_of_le hd1 hby.size
      have l7 := (Array.getElem?_eq_some_iff.1 hy7).1
      have HGX := hide hgx
      have HBY := hide hby
      have hme : (2 : Nat) ^ G.ts.length = S.bit (G.ts.length : Int) := (S.bit_nat (by have := ((Gm.terms_iff G.ts).1 HOK.out.t).1; omega)).symm
      have HFL0 : Hid ((List.replicate G.ns.length 0).set m (S.bit (G.ts.length : Int)) = Gm.flw0 G) := hide (by unfold Gm.flw0; rw [HM.out, hme]; simp)
      have HBT := hide (fun w => fOnly_any (G.ts.length : Int) w)
      generalize S.bit (G.ts.length : Int) = vb at *
      have hm2 : (m : Int) < (G.ns.length : Int) := by omega
      rw [hm] at q3
      simp only [hm] at *
      clear hst hst1 hgx hby hme
      go_upto_region 4 with fail
      refine CalmN.region_tree (fun x => ∃ z : OnB2 c7 w.heap.size wy, x = z.1) (.one [0, 1, 2, 3] 4 (.one [] 5 (.one [6] 7 (.fin [])))) (by kernel_rfl) (by kernel_rfl) (fun _ _ d _ _ h => by cases d <;> exact h) ⟨⟨wy.drew, rfl, rfl⟩, rfl⟩ ?_
      simp only [CalmN.wpT, CalmN.wpSt, CalmN.pickOps, List.getElem?_toArray, List.getElem?_cons_zero, List.getElem?_cons_succ]
      repeat (go_big_quiet_step (fail))
      refine wpQuiet_nil ?_
      obtain ⟨wd, hwd⟩ : ∃ z, z = wy.drew := ⟨_, rfl⟩
      have HBD : Hid (Below wy.heap.size wy wd) := hide (by rw [hwd]; exact below_drewN (Below.refl _ _) 1)
      have HSB : Hid (∀ z, Below wy.heap.size wy z → ∃ q : OnB2 c7 w.heap.size wy, z = q.1) := hide (fun z hz => ⟨⟨z, hz.block _ l7, hz.block _ lw⟩, rfl⟩)
      rw [← hwd]
      clear hwd q0 q1 q2 q3 q7
      intro KK hKK
      rw [if_pos (by rfl)]
      go_wp2_with fail
      refine (HED.out wd (HBY.out.trans (HBD.out.mono HBY.out.size))).mono ?_; rintro _ w3 ⟨rfl, hb3⟩
      have HB3 := hide (HBD.out.trans (hb3.mono HBD.out.size))
      clear hb3
      go_wp2_with fail
      refine hKK _ _ (HSB.out _ HB3.out) (fun x => ∃ z : OnB2 c7 w.heap.size wy, x = z.1) (fun _ h => h) (HSB.out _ HB3.out) ?_
      clear hKK
      refine wpQuiet_nil ?_
      intro KK hKK
      rw [if_pos (by rfl)]
      go_wp2_with fail
      refine (HBT.out w3).mono ?_; rintro _ w4 ⟨rfl, hb4⟩
      have HB4 := hide (HB3.out.trans (hb4.mono HB3.out.size))
      clear hb4
      go_wp2_with fail
      refine hKK _ _ (HSB.out _ HB4.out) (fun x => ∃ z : OnB2 c7 w.heap.size wy, x = z.1) (fun _ h => h) (HSB.out _ HB4.out) ?_
      clear hKK
      repeat (go_big_quiet_step (fail))
      refine wpQuiet_nil ?_
      have hvg : UBZ w4 g5 (List.replicate G.ns.length 0) := hyg.below HB4.out hyg.lt
      have u5 := hvg.cell m (by simp; omega)
      have f5 := hvg.frozen m
      have l5 := hvg.lt
      obtain ⟨wv, hwv⟩ : ∃ y, y = w4.setCell ⟨g5, m, none⟩ (.int .u32 (vb : Int)) := ⟨_, rfl⟩
      have hbv4 : Below w2.heap.size w2 wv := by rw [hwv]; exact (HBY.out.trans (HB4.out.mono HBY.out.size)).setCell (p := ⟨g5, m, none⟩) HNE.out.2.2.2.2.1 _
      have hvg : UBZ wv g5 (Gm.flw0 G) := by rw [hwv, ← HFL0.out]; exact hvg.set_ m vb
      have hkv : ∀ i, i ≠ g5 → i < wy.heap.size → wv.heap[i]? = wy.heap[i]? := fun i h1 h2 => by rw [hwv, Below.heap_setCell _ _ _ _ (by simp only; exact h1)]; exact HB4.out.block i h2
      have hv1 : UBO wv g1 T := (hkv g1 HNE.out.2.1 hy1.lt).trans hy1
      have hv5 : UBZ wv h5 F := (hkv h5 HNE.out.1 hy5.lt).trans hy5
      have hv6 := (hkv c6 HNE.out.2.2.1 (Array.getElem?_eq_some_iff.1 hy6).1).trans hy6
      have hv7 := (hkv c7 (fun e => HNE.out.2.2.2.1 e.symm) l7).trans hy7
      have hSv : ∃ q : OnB2 c7 w.heap.size wy, wv = q.1 := ⟨⟨wv, hkv c7 (fun e => HNE.out.2.2.2.1 e.symm) l7, hkv w.heap.size (by have := HNE.out.2.2.2.2.1; omega) lw⟩, rfl⟩
      clear hy1 hy5 hyg hy6 hy7 hkv
      intro KK hKK
      rw [if_pos (by rfl)]
      go_wp2_with fail
      rw [← hwv]
      refine hKK _ _ hSv (fun x => ∃ z : OnB2 c7 w.heap.size wy, x = z.1) (fun _ h => h) hSv ?_
      clear hKK hSv u5 f5 l5 hwv
      refine wpQuiet_nil ?_
      have hWv : Below w.heap.size w wv := HW2.out.trans (hbv4.mono (Nat.le_of_lt hd1))
      have hRv : RdRl wv B AR G.rs := HRl.out.keep fun g o hg => hWv.cell (p := ⟨g, o, none⟩) (Nat.lt_of_lt_of_le hg HB.out)
      have u2 := (hbv4.cell (p := ⟨w.heap.size, 2, none⟩) hd1).trans (HB2.out.c 2 _ rfl)
      have u7 := cell_of_row wv _ 0 _ _ _ hv7
      have l7 := (Array.getElem?_eq_some_iff.1 hv7).1
      have lw : w.heap.size < wv.heap.size := Nat.lt_of_lt_of_le hd1 hbv4.size
      have hBg : B ≤ g5 := by have := HB.out; have := HNE.out.2.2.2.2.1; omega
      have hGR := fgrow_any 20 #[.pointer (some ⟨c6, 0, none⟩), .pointer (some ⟨c7, 0, none⟩)] (enter_of Try.func20 (by kernel_rfl) (by kernel_rfl)) G.rs AR cR G.ns.length B g5 G.ns.length wv (Gm.flw0 G) (FwP G) (Gm.fwNX T F)
        hRv (Nat.le_trans HB.out hWv.size) hBg hvg (FwP.start HOK.out).l (FwP.start HOK.out) (by have := HR40.out; omega) (fun s x => Gm.fwNX_le T F s x) (fun s x hx h => by rw [HT.out, HFE.out]; exact FwP.step HFT.out HOK.out hx _ s (fun _ h => h) h) (fun s h => h.u)
        (fun y s b x A' c' hG hP hx hr hlc => follow1_any wv y g5 G.ns.length G.ns.length c6 c7 g1 h5 G.ts.length s b T F A' c' B x hG hv6 hv7 hv1 hv5 HTl.out HFl.out HF.out HNE.out.2.1 HNE.out.1 HNE.out.2.2.1 (fun e => HNE.out.2.2.2.1 e.symm) hr hlc (Nat.le_trans HB.out hWv.size) hBg hP.u (rlIn HFT.out HOK.out hx))
      have HGR := hide hGR
      have HX : Hid (∀ (y : World) (s : List Nat), FwP G s → (∀ x ∈ G.rs, Gm.fwNX T F s x = s) → UBZ y g5 s → wv.grownBy y (some g5) → UBZ y g5 (Gm.flw G) ∧ y.heap[c7]? = some (.cells #[.slice (some ⟨g5, 0, none⟩) G.ns.length G.ns.length] 29 (0, 0)) ∧ Below w2.heap.size w2 y) := hide (fun y s hP hc hu hg => by
        rw [HT.out, HFE.out] at hc
        rw [← Gm.flw_row HOK.out hP.l hP.sd hP.e hc]
        exact ⟨hu, (hg.block c7 l7 (fun e => by injection e with e; exact HNE.out.2.2.2.1 e.symm)).trans hv7, below_only hbv4 hg HNE.out.2.2.2.2.1 hbv4.size⟩)
      clear hGR hv1 hv5 hv6 hv7 hRv hWv hvg hBg hg1 hh5 hg5 hc6 hc7 hnn HT HFE
      go_wp2_with fail
      refine HGR.out.mono ?_; rintro _ w5 ⟨rfl, s, hP, hc, hu, hsl, hgr⟩
      obtain ⟨hu5, hu7, hb5⟩ := HX.out w5 s hP hc hu hgr
      have u75 := cell_of_row w5 _ 0 _ _ _ hu7
      have l75 := (Array.getElem?_eq_some_iff.1 hu7).1
      have HU5 := hide hu5
      have HB5 := hide hb5
      clear hP hc hu hsl hgr hu5 hu7 hb5 HX HGR u2 u7 lw l7
      go_wp2
      go_ret
      exact ⟨fun _ => ⟨g5, by rw [Gm.flw_len]; rfl, by have := HNE.out.2.2.2.2.1; omega, HU5.out, HW2.out.trans (HB5.out.mono (Nat.le_of_lt hd1))⟩, fun h => by simp at h⟩
end Go.Proofs.Ythjohhcgegcmhaa
