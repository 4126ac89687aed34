/- Part of the proofs over this program: Src9, Alive11T, Bools, Alive11, RefRed, RefReduce. -/
import Derived.Test.YtfiijndmlmddbaaGreatKK
namespace Go.Proofs.YtfiijndmlmddbaaGreat
set_option maxRecDepth 100000
open Go.RowKit

def txB (s : List Int) : Bool := (s.all fun z => decide (0 ≤ z) && decide (z < 256)) && decide (s.length ≤ 100)
def refB (x : Tok) : Bool := txB x.t && Gm.named x.t && !(x.t == [101, 114, 114, 111, 114])
def dcB (d : Y.Dcl) : Bool := (d.k == 4 || d.k == 5) && (d.ns.all fun x => txB x.t && Gm.named x.t) && decide (d.ns.length ≤ 1000)
def pdB (p : Y.Prd) : Bool := txB p.l.t && T.isName p.l.t && (p.r.all refB) && (match p.p with | none => true | some x => refB x) && decide (p.r.length ≤ 1000)
def ezB (ds : List Y.Dcl) (ps : List Y.Prd) : Bool := ds.all dcB && ps.all pdB && decide (ds.length ≤ 1000) && decide (ps.length ≤ 1000) && decide (0 < ps.length)
theorem txB_ok {s : List Int} (h : txB s = true) : K.Tx s := by
  unfold txB at h
  rw [Bool.and_eq_true, decide_eq_true_eq] at h
  exact ⟨bytes_lit _ h.1, by omega⟩
theorem refB_ok {x : Tok} (h : refB x = true) : Ref9 x := by
  unfold refB at h
  simp only [Bool.and_eq_true] at h
  exact ⟨txB_ok h.1.1, h.1.2, by simpa using h.2⟩
theorem ezB_ok {ds : List Y.Dcl} {ps : List Y.Prd} (h : ezB ds ps = true) : Ez ds ps := by
  unfold ezB at h
  simp only [Bool.and_eq_true, decide_eq_true_eq, List.all_eq_true] at h
  obtain ⟨⟨⟨⟨h1, h2⟩, h3⟩, h4⟩, h5⟩ := h
  refine ⟨fun d hd => ?_, fun d hd => ?_, fun p hp => ?_, fun p hp => ?_, h3, h4, h5⟩
  · have := h1 d hd
    unfold dcB at this
    simp only [Bool.and_eq_true, Bool.or_eq_true, beq_iff_eq] at this
    exact this.1.1
  · have := h1 d hd
    unfold dcB at this
    simp only [Bool.and_eq_true, List.all_eq_true, decide_eq_true_eq] at this
    exact ⟨fun x hx => ⟨txB_ok (this.1.2 x hx).1, (this.1.2 x hx).2⟩, by omega⟩
  · have := h2 p hp
    unfold pdB at this
    simp only [Bool.and_eq_true] at this
    exact ⟨txB_ok this.1.1.1.1, this.1.1.1.2⟩
  · have := h2 p hp
    unfold pdB at this
    simp only [Bool.and_eq_true, List.all_eq_true, decide_eq_true_eq] at this
    refine ⟨fun x hx => refB_ok (this.1.1.2 x hx), fun x hx => ?_, this.2⟩
    have h6 := this.1.2
    rw [hx] at h6
    exact refB_ok h6
/-- The grammar of a text that is known. -/
def gr9 (L : List Int) : Option Gm.Gr :=
  match toks L with
  | .ok xs => match Y.decls (xs.length + 1) [] xs with
    | .ok ds m => match Y.take [9] m with
      | .ok _ m2 => match Y.group [] m2 with
        | .ok p1 r1 => match Y.more (r1.length + 1) p1 r1 with
          | .ok ps [] => match ezB ds ps, Gm.build ds ps with
            | true, .ok G => some G
            | _, _ => none
          | _ => none
        | _ => none
      | _ => none
    | _ => none
  | _ => none
theorem gr9_ok {L : List Int} {G : Gm.Gr} (hb : (L.all fun z => decide (0 ≤ z) && decide (z < 256)) = true) (hn : L.length ≤ 2000) (h : gr9 L = some G) : ∃ xs ds ps, Sr9 L xs ds ps G := by
  unfold gr9 at h
  split at h
  · rename_i xs h1
    split at h
    · rename_i ds m h2
      split at h
      · rename_i t9 m2 h3
        split at h
        · rename_i p1 r1 h4
          split at h
          · rename_i ps h7
            split at h
            · rename_i h5 h6
              injection h with h
              subst h
              exact ⟨xs, ds, ps, bytes_lit _ hb, hn, h1, ⟨m, t9, m2, p1, r1, _, h2, h3, h4, h7⟩, ezB_ok h5, h6⟩
            · cases h
          · cases h
        · cases h
      · cases h
    · cases h
  · cases h
/-- Read of a text that is known. -/
theorem gread_const (L : List Int) (G : Gm.Gr) (hb : (L.all fun z => decide (0 ≤ z) && decide (z < 256)) = true) (hl : L.length ≤ 2000) (hg : gr9 L = some G) (w : World) (n : Nat) (hw : n = w.heap.size) :
    Calls Tryz.prog 26 #[.slice (some ⟨n, 0, none⟩) L.length L.length] (w.alloc (cellsM L)) fun e w' => (∃ g, e = .returned (.tuple #[g, .complex .f64 0 0, .int .i64 0]) ∧ RdGr w' w'.heap.size g G ∧ Gm.Fit G) ∧ Below w.heap.size w w' := by
  subst hw
  obtain ⟨xs, ds, ps, hs⟩ := gr9_ok hb hl hg
  obtain ⟨r1, r2⟩ := litM w L
  exact (gread9 _ L.length L xs ds ps G _ r1 (Nat.le_refl _) hs).mono fun e w' h => ⟨h.1, r2.trans (h.2.mono r2.size)⟩
end Go.Proofs.YtfiijndmlmddbaaGreat

namespace Go.Proofs.YtfiijndmlmddbaaGreat
set_option maxRecDepth 100000
open Go.RowKit

def et11a : List Int := [37, 37, 32, 115, 32, 58, 32, 39, 97, 39, 32, 117, 32, 124, 32, 39, 98, 39, 32, 124, 32, 59, 32, 117, 32, 58, 32, 117, 32, 39, 99, 39, 32, 59, 32, 118, 32, 58, 32, 39, 100, 39, 32, 115, 32, 59]
def et11b : List Int := [37, 37, 32, 115, 32, 58, 32, 117, 32, 59, 32, 117, 32, 58, 32, 117, 32, 39, 97, 39, 32, 59]
def gt11a : Gm.Gr := ⟨[⟨[39, 97, 39], 0, 0⟩, ⟨[39, 98, 39], 0, 0⟩, ⟨[39, 99, 39], 0, 0⟩, ⟨[39, 100, 39], 0, 0⟩], [[115], [117], [118]], [⟨0, [0, -2], 0⟩, ⟨0, [1], 1⟩, ⟨0, [], -1⟩, ⟨1, [-2, 2], 2⟩, ⟨2, [3, -1], 3⟩], 0⟩
def gt11b : Gm.Gr := ⟨[⟨[39, 97, 39], 0, 0⟩], [[115], [117]], [⟨0, [-2], -1⟩, ⟨1, [-2, 0], 0⟩], 0⟩
theorem gre11a : gr9 et11a = some gt11a := by kernel_rfl
theorem gre11b : gr9 et11b = some gt11b := by kernel_rfl
theorem right11a : Gm.right gt11a = true := by decide +kernel
theorem right11b : Gm.right gt11b = true := by decide +kernel
theorem nul11a : Gm.gn false gt11a.rs gt11a.ns.length = [true, false, false] := by
  rw [← Gm.grow_gn (Gm.right_ok.1 right11a).lin]; decide +kernel
theorem pro11a : Gm.gn true gt11a.rs gt11a.ns.length = [true, false, true] := by
  rw [← Gm.grow_gn (Gm.right_ok.1 right11a).lin]; decide +kernel
theorem rea11a : Gm.rc gt11a = [true, false, false] := by
  have h := Gm.right_ok.1 right11a
  rw [← Gm.reach_rc h.lin h.sin h.s0 h.s1, pro11a]; decide +kernel
theorem pro11b : Gm.gn true gt11b.rs gt11b.ns.length = [false, false] := by
  rw [← Gm.grow_gn (Gm.right_ok.1 right11b).lin]; decide +kernel
theorem st11 {G : Gm.Gr} (h : Gm.right G = true) : Gm.tr (Gm.Gn true G.rs G.st) = (Gm.gn true G.rs G.ns.length).getD G.st.toNat false := by
  have hok := Gm.right_ok.1 h
  have h0 := hok.s0
  have h1 := hok.s1
  rw [Gm.gn_at _ _ _ _ (by omega), Int.toNat_of_nonneg h0]
theorem rdE11a : Gm.rdE gt11a = 0 := Gm.rdE_ok right11a (by rw [st11 right11a, pro11a]; decide)
theorem rdE11b : Gm.rdE gt11b = 9 := Gm.rdE_empty right11b (by rw [st11 right11b, pro11b]; decide)
theorem rdE11c : Gm.rdE Gm.gr0 = 1 := Gm.rdE_no (by decide +kernel)
theorem use11a {x : Gm.Rl} (hx : x ∈ gt11a.rs) : Gm.use gt11a x = Gm.rcB [true, false, true] [true, false, false] x := by
  rw [← Gm.use_rcB (Gm.right_ok.1 right11a) hx, pro11a, rea11a]
theorem flt11a : gt11a.rs.filter (Gm.rcB [true, false, true] [true, false, false]) = [⟨0, [1], 1⟩, ⟨0, [], -1⟩] := by kernel_rfl
theorem krs11a : Gm.krs gt11a = [⟨0, [1], 1⟩, ⟨0, [], -1⟩] := by
  have e : Gm.krs gt11a = gt11a.rs.filter (Gm.rcB [true, false, true] [true, false, false]) := List.filter_congr fun x hx => use11a hx
  exact e.trans flt11a
theorem kl11a : Gm.kl gt11a gt11a.rs.length = [1, 2] := by
  have e : Gm.kl gt11a gt11a.rs.length = ((List.range gt11a.rs.length).filter fun j => (gt11a.rs[j]?).any (Gm.rcB [true, false, true] [true, false, false])).map fun j : Nat => (j : Int) := by
    unfold Gm.kl
    congr 1
    refine List.filter_congr fun j hj => ?_
    have hj := List.mem_range.1 hj
    rw [List.getElem?_eq_getElem hj, Option.any_some, Option.any_some]
    exact use11a (List.getElem_mem hj)
  rw [e]; decide +kernel
theorem rdL11a : Gm.rdL gt11a = [1, 2] := by unfold Gm.rdL; rw [if_pos rdE11a, kl11a]
theorem olds11a : Gm.olds gt11a = [0] := by unfold Gm.olds; rw [krs11a]; decide +kernel
theorem rdG11a : Gm.rdG gt11a = Gm.reduce gt11a := by unfold Gm.rdG; rw [if_pos rdE11a]
theorem len11a : (Gm.rdG gt11a).ts.length = 4 ∧ (Gm.rdG gt11a).ns.length = 1 ∧ (Gm.rdG gt11a).rs.length = 2 := by
  rw [rdG11a]
  refine ⟨rfl, ?_, ?_⟩
  · rw [Gm.red_ns, olds11a]; rfl
  · unfold Gm.reduce; rw [List.length_map, krs11a]; rfl
/-- What was reduced is reduced. -/
theorem Gm.isB_red {G : Gm.Gr} (h : Gm.rdE G = 0) : Gm.isB (Gm.rdG G) = true := by
  have hr : Gm.right G = true := by
    cases q : Gm.right G
    · rw [Gm.rdE_no q] at h; cases h
    · rfl
  have hp : Gm.Gn true G.rs G.st := by
    cases q : Gm.tr (Gm.Gn true G.rs G.st)
    · rw [Gm.rdE_empty hr q] at h; cases h
    · exact Gm.tr_iff.1 q
  have hok := Gm.right_ok.1 hr
  have hG : Gm.rdG G = Gm.reduce G := by unfold Gm.rdG; rw [if_pos h]
  have hok2 := Gm.red_ok hok hp
  have hp2 : Gm.Gn true (Gm.reduce G).rs (Gm.reduce G).st := by
    have := (Gm.red_all (G := G) (i := (Gm.reduce G).st.toNat) (by have := hok2.s0; have := hok2.s1; omega)).1
    rwa [Int.toNat_of_nonneg hok2.s0] at this
  have h2 : Gm.rdE (Gm.reduce G) = 0 := Gm.rdE_ok (Gm.right_ok.2 hok2) (Gm.tr_iff.2 hp2)
  have hG2 : Gm.rdG (Gm.reduce G) = Gm.reduce G := by unfold Gm.rdG; rw [if_pos h2, Gm.red_red hp]
  unfold Gm.isB
  rw [hG, h2, hG2, Gm.same_self]; rfl
theorem is11a : Gm.isB (Gm.rdG gt11a) = true := Gm.isB_red rdE11a
theorem not11a : Gm.isB gt11a = false := by
  unfold Gm.isB Gm.same
  have : eqb gt11a.rs (Gm.rdG gt11a).rs = false := eqb_no (fun e => by have h := len11a.2.2; rw [← e] at h; cases h)
  rw [this]; simp
end Go.Proofs.YtfiijndmlmddbaaGreat

namespace Go.Proofs.YtfiijndmlmddbaaGreat
open Go.RowKit

theorem LB.take_snoc (l : List Bool) (k : Nat) (h : k < l.length) : l.take (k + 1) = l.take k ++ [l.getD k false] := by
  rw [LB.gd_lt h, List.take_succ_eq_append_getElem h]
theorem bools_any (A A' : Option Addr) (ca cb : Nat) (xs ys : List Bool) (w : World) (hra : RdO w w.heap.size A xs) (hrb : RdO w w.heap.size A' ys) (hxl : xs.length ≤ 9223372036854775807) (hyl : ys.length ≤ 9223372036854775807) :
    Calls Tryz.prog 9 #[.slice A xs.length ca, .slice A' ys.length cb] w fun e w' => e = .returned (.bool (decide (xs = ys))) ∧ ∃ n, w' = w.drewN n := by
  by_cases hl : xs.length = ys.length
  · have HL := hide hl
    rw [← hl]
    have hne : ((xs.length : Int) != (xs.length : Int)) = false := by simp
    clear hl hyl
    go_enter Tryz.func9, Tryz.ntmps9
    go_wp2
    go_loopw [5] (fun vi wr => ∃ (k q : Nat), k ≤ xs.length ∧ vi = .int .i64 k ∧ xs.take k = ys.take k ∧ wr = w.drewN q) (fun vi _ => xs.length - (intOf vi).toNat)
    case atStart => exact ⟨0, 0, Nat.zero_le _, rfl, rfl, rfl⟩
    case round =>
      obtain ⟨k, q, hk, rfl, ht, hwr⟩ := hrel
      have HT := hide ht
      have HW := hide hwr
      by_cases hlt : k < xs.length
      · obtain ⟨ga, oa, rfl, _, ha⟩ := hra (by omega)
        obtain ⟨gb, ob, rfl, _, hb⟩ := hrb (by have := HL.out; omega)
        have ca' : wr.cell? ⟨ga, oa + k, none⟩ = some (.bool (xs.getD k false)) := by rw [hwr]; exact ha k hlt
        have cb' : wr.cell? ⟨gb, ob + k, none⟩ = some (.bool (ys.getD k false)) := by rw [hwr]; exact hb k (by have := HL.out; omega)
        have k0 : (0 : Int) ≤ (k : Int) := by omega
        have k1 : (k : Int) < (xs.length : Int) := by omega
        clear ha hb ht hwr hra hrb
        by_cases hxy : xs.getD k false = ys.getD k false
        · have HN : Hid (xs.take (k + 1) = ys.take (k + 1)) := by
            show xs.take (k + 1) = ys.take (k + 1)
            rw [LB.take_snoc xs k hlt, LB.take_snoc ys k (by have := HL.out; omega), HT.out, hxy]
          rw [← hxy] at cb'
          generalize xs.getD k false = x at *
          clear hxy
          cases x
          · go_wp2_with fail
            go_quiet (fail)
            go_wp2
            go_roundw
            case rel => exact ⟨k + 1, _, hlt, by go_num, HN.out, by rw [HW.out]; exact World.drewN_drewN _ _ _⟩
            case measure => simp [intOf]; omega
          · go_wp2_with fail
            go_quiet (fail)
            go_wp2
            go_roundw
            case rel => exact ⟨k + 1, _, hlt, by go_num, HN.out, by rw [HW.out]; exact World.drewN_drewN _ _ _⟩
            case measure => simp [intOf]; omega
        · have HN : Hid (decide (xs = ys) = false) := by
            show decide (xs = ys) = false
            rw [decide_eq_false_iff_not]; rintro rfl; exact hxy rfl
          generalize xs.getD k false = x at *
          generalize ys.getD k false = y at *
          cases x
          · cases y
            · exact absurd rfl hxy
            · clear hxy
              go_wp2_with fail
              go_quiet (fail)
              go_wp2
              go_ret
              exact ⟨ret_bool HN.out.symm, _, by rw [HW.out, World.drewN_drewN]⟩
          · cases y
            · clear hxy
              go_wp2_with fail
              go_quiet (fail)
              go_wp2
              go_ret
              exact ⟨ret_bool HN.out.symm, _, by rw [HW.out, World.drewN_drewN]⟩
            · exact absurd rfl hxy
      · obtain rfl : k = xs.length := by omega
        have HE : Hid (decide (xs = ys) = true) := by
          show decide (xs = ys) = true
          rw [decide_eq_true_iff]
          have h := HT.out
          rwa [List.take_length, HL.out, List.take_length] at h
        clear ht
        subst hwr
        go_wp2
        go_ret
        exact ⟨ret_bool HE.out.symm, _, rfl⟩
  · have HE : Hid (decide (xs = ys) = false) := by
      show decide (xs = ys) = false
      rw [decide_eq_false_iff_not]; rintro rfl; exact hl rfl
    have hne : ((xs.length : Int) != (ys.length : Int)) = true := by simp; omega
    go_enter Tryz.func9, Tryz.ntmps9
    go_wp2
    go_ret
    exact ⟨ret_bool HE.out.symm, 0, rfl⟩

end Go.Proofs.YtfiijndmlmddbaaGreat

namespace Go.Proofs.YtfiijndmlmddbaaGreat
set_option maxRecDepth 100000
open Go.RowKit

theorem bools_same (A A' : Option Addr) (ca cb : Nat) (xs : List Bool) (w : World) (hra : RdO w w.heap.size A xs) (hrb : RdO w w.heap.size A' xs) (hxl : xs.length ≤ 9223372036854775807) :
    Calls Tryz.prog 9 #[.slice A xs.length ca, .slice A' xs.length cb] w fun e w' => e = .returned (.bool true) ∧ ∃ n, w' = w.drewN n :=
  (bools_any A A' ca cb xs xs w hra hrb hxl hxl).mono fun e w' h => ⟨by rw [h.1, decide_eq_true rfl], h.2⟩
theorem ints_same (A A' : Option Addr) (ca cb : Nat) (xs : List Int) (w : World) (hra : RdI w w.heap.size A xs) (hrb : RdI w w.heap.size A' xs) (hxl : xs.length ≤ 9223372036854775807) :
    Calls Tryz.prog 22 #[.slice A xs.length ca, .slice A' xs.length cb] w fun e w' => e = .returned (.bool true) ∧ ∃ n, w' = w.drewN n :=
  (ints_any A A' ca cb xs xs w hra hrb hxl hxl).mono fun e w' h => ⟨by rw [h.1, decide_eq_true rfl], h.2⟩
theorem gr0_fit : Gm.Fit Gm.gr0 := ⟨by simp [Gm.gr0], by simp [Gm.gr0], by simp [Gm.gr0], by unfold Gm.In; simp [Gm.gr0]⟩
set_option maxHeartbeats 8000000 in
theorem alive11_any (w : World) : Calls Tryz.prog 7 #[] w fun e w' => e = .returned (.bool true) ∧ Below w.heap.size w w' := by
  have T1 := hide (gread_const et11a gt11a (by decide) (by decide) gre11a w w.heap.size rfl)
  have T2 := hide (fun (w1 : World) (n : Nat) (hw : n = w1.heap.size) => gread_const et11b gt11b (by decide) (by decide) gre11b w1 n hw)
  have V1 := hide (fun w : World => show (convert 47 47 (.slice (some ⟨w.heap.size, 0, none⟩) 46 46)).run Tryz.prog (w.alloc (.cells #[.int .u8 37, .int .u8 37, .int .u8 32, .int .u8 115, .int .u8 32, .int .u8 58, .int .u8 32, .int .u8 39, .int .u8 97, .int .u8 39, .int .u8 32, .int .u8 117, .int .u8 32, .int .u8 124, .int .u8 32, .int .u8 39, .int .u8 98, .int .u8 39, .int .u8 32, .int .u8 124, .int .u8 32, .int .u8 59, .int .u8 32, .int .u8 117, .int .u8 32, .int .u8 58, .int .u8 32, .int .u8 117, .int .u8 32, .int .u8 39, .int .u8 99, .int .u8 39, .int .u8 32, .int .u8 59, .int .u8 32, .int .u8 118, .int .u8 32, .int .u8 58, .int .u8 32, .int .u8 39, .int .u8 100, .int .u8 39, .int .u8 32, .int .u8 115, .int .u8 32, .int .u8 59] 5)) = .ok (.slice (some ⟨w.heap.size, 0, none⟩) 46 46) (w.alloc (cellsM et11a)) from lit_conv w et11a 46 46)
  have V2 := hide (fun w : World => show (convert 47 47 (.slice (some ⟨w.heap.size, 0, none⟩) 22 22)).run Tryz.prog (w.alloc (.cells #[.int .u8 37, .int .u8 37, .int .u8 32, .int .u8 115, .int .u8 32, .int .u8 58, .int .u8 32, .int .u8 117, .int .u8 32, .int .u8 59, .int .u8 32, .int .u8 117, .int .u8 32, .int .u8 58, .int .u8 32, .int .u8 117, .int .u8 32, .int .u8 39, .int .u8 97, .int .u8 39, .int .u8 32, .int .u8 59] 5)) = .ok (.slice (some ⟨w.heap.size, 0, none⟩) 22 22) (w.alloc (cellsM et11b)) from lit_conv w et11b 22 22)
  have U1 := V1.out w
  have hbg := fun w => build_gr11 w
  have hs1 : ∀ (x : World) (o : Obj), (x.alloc o).heap.size = x.heap.size + 1 := fun x o => by simp
  have hl1 : et11a.length = 46 := rfl
  have hl2 : et11b.length = 22 := rfl
  rw [hl1] at T1
  rw [hl2] at T2
  clear V1 hl1 hl2
  go_enter Tryz.func7, Tryz.ntmps7
  go_wp2_with fail
  refine T1.out.mono ?_; rintro _ w1 ⟨⟨g, rfl, hg1, hft1⟩, hb1⟩
  have HB1 := hide hb1
  have HR1 := hide (fun (x : World) (h : Below w1.heap.size w1 x) => tReduce_any g gt11a w1.heap.size x (hg1.below h (Nat.le_refl _)) hft1 h.size)
  have HI1 := hide (fun (x : World) (h : Below w1.heap.size w1 x) => tIs_any g gt11a w1.heap.size x (hg1.below h (Nat.le_refl _)) hft1 h.size)
  have HN1 := hide (fun (x : World) (h : Below w1.heap.size w1 x) => (show Calls _ _ _ _ (RowT _ _) from (nullable_any g gt11a w1.heap.size x (hg1.below h (Nat.le_refl _)) hft1 h.size).mono fun e w' k => k.1 right11a))
  have HP1 := hide (fun (x : World) (h : Below w1.heap.size w1 x) => (show Calls _ _ _ _ (RowT _ _) from (productive_any g gt11a w1.heap.size x (hg1.below h (Nat.le_refl _)) hft1 h.size).mono fun e w' k => k.1 right11a))
  have HC1 := hide (fun (x : World) (h : Below w1.heap.size w1 x) => (show Calls _ _ _ _ (RowT _ _) from (reachable_any g gt11a w1.heap.size x (hg1.below h (Nat.le_refl _)) hft1 h.size).mono fun e w' k => k.1 right11a))
  rw [nul11a] at HN1
  rw [pro11a] at HP1
  rw [rea11a] at HC1
  rw [not11a] at HI1
  unfold RedAns at HR1
  rw [rdL11a, rdE11a] at HR1
  have HF1 := hide hft1
  obtain ⟨AT1, cT1, AN1, cN1, AR1, cR1, rfl, _, _, _, _, _, _⟩ := hg1
  have HQ1 := hide (One.start w1 #[.slice AT1 gt11a.ts.length cT1, .slice AN1 gt11a.ns.length cN1, .slice AR1 gt11a.rs.length cR1, .int .i64 gt11a.st])
  have HY1 := hide (fun (x : World) (h : One w1 #[.slice AT1 gt11a.ts.length cT1, .slice AN1 gt11a.ns.length cN1, .slice AR1 gt11a.rs.length cR1, .int .i64 gt11a.st] x) => And.intro (h.c 0 _ rfl) (And.intro (h.c 1 _ rfl) (And.intro (h.c 2 _ rfl) (h.c 3 _ rfl))))
  have HBF := hide (fun (x : World) (h : One w1 #[.slice AT1 gt11a.ts.length cT1, .slice AN1 gt11a.ns.length cN1, .slice AR1 gt11a.rs.length cR1, .int .i64 gt11a.st] x) => hb1.trans (h.below.mono hb1.size))
  clear hb1 U1 T1 hft1
  go_wp2_with fail
  refine (HR1.out _ HQ1.out.below).mono ?_; rintro _ w2 ⟨g2, A2, c2, rfl, hg2, hr2, hb2⟩
  have HB2 := hide (HQ1.out.on hb2)
  have HI2 := hide (fun (x : World) (h : Below w2.heap.size w2 x) => tIs_any g2 (Gm.rdG gt11a) w2.heap.size x (hg2.below h (Nat.le_refl _)) (Gm.rdG_fit HF1.out) h.size)
  rw [is11a] at HI2
  have HR2 := hide hr2
  obtain ⟨B0, d0, B1, d1, B2, d2, rfl, _⟩ := hg2
  rw [len11a.1, len11a.2.1, len11a.2.2] at HI2 ⊢
  have HQ2 := hide (One.start w2 #[.slice B0 4 d0, .slice B1 1 d1, .slice B2 2 d2, .int .i64 (Gm.rdG gt11a).st])
  have HY2 := hide (fun (x : World) (h : One w2 #[.slice B0 4 d0, .slice B1 1 d1, .slice B2 2 d2, .int .i64 (Gm.rdG gt11a).st] x) => And.intro (h.c 0 _ rfl) (And.intro (h.c 1 _ rfl) (And.intro (h.c 2 _ rfl) (h.c 3 _ rfl))))
  generalize (Gm.rdG gt11a).st = st2 at *
  clear hb2 hr2 HR1
  have U2 := fun (o : Obj) => V2.out (w2.alloc o)
  simp only [hs1] at U2
  clear V2
  go_wp2_with fail
  refine (T2.out _ _ (hs1 _ _).symm).mono ?_; rintro _ w3 ⟨⟨g3, rfl, hg3, hft3⟩, hb3⟩
  have HB3 := hide (HQ2.out.on hb3)
  have HR3 := hide (fun (x : World) (h : Below w3.heap.size w3 x) => tReduce_any g3 gt11b w3.heap.size x (hg3.below h (Nat.le_refl _)) hft3 h.size)
  unfold RedAns at HR3
  rw [rdE11b] at HR3
  obtain ⟨AT3, cT3, AN3, cN3, AR3, cR3, rfl, _, _, _, _, _, _⟩ := hg3
  have HQ3 := hide (One.start w3 #[.slice AT3 gt11b.ts.length cT3, .slice AN3 gt11b.ns.length cN3, .slice AR3 gt11b.rs.length cR3, .int .i64 gt11b.st])
  clear U2 hb3 T2 hft3
  go_wp2_with fail
  refine (HR3.out _ HQ3.out.below).mono ?_; rintro _ w4 ⟨g4, A4, c4, rfl, hg4, hr4, hb4⟩
  have HB4 := hide (HB3.out.on (HQ3.out.on hb4).below)
  obtain ⟨C0, f0, C1, f1, C2, f2, rfl, _⟩ := hg4
  have HR5 := hide (fun (x : World) => tReduce_any _ Gm.gr0 x.heap.size x (gr0_rd x _) gr0_fit (Nat.le_refl _))
  unfold RedAns at HR5
  rw [rdE11c] at HR5
  clear hb4 hr4 HR3
  go_wp2_with fail
  refine (HR5.out _).mono ?_; rintro _ w5 ⟨g5, A5, c5, rfl, hg5, hr5, hb5⟩
  have HB5 := hide ((HB4.out.alloc _).on hb5)
  obtain ⟨D0, h0, D1, h1, D2, h2, rfl, _⟩ := hg5
  clear hb5 hr5 HR5
  have HW5 := hide (HB5.out.alloc (.cells #[.slice D0 (Gm.rdG Gm.gr0).ts.length h0, .slice D1 (Gm.rdG Gm.gr0).ns.length h1, .slice D2 (Gm.rdG Gm.gr0).rs.length h2, .int .i64 (Gm.rdG Gm.gr0).st] 26))
  obtain ⟨w6, hw6⟩ : ∃ x, x = w5.alloc (.cells #[.slice D0 (Gm.rdG Gm.gr0).ts.length h0, .slice D1 (Gm.rdG Gm.gr0).ns.length h1, .slice D2 (Gm.rdG Gm.gr0).rs.length h2, .int .i64 (Gm.rdG Gm.gr0).st] 26) := ⟨_, rfl⟩
  go_upto_region 6 with fail
  rw [← hw6] at HW5 ⊢
  clear hw6
  have HK1 : Hid (One w1 #[.slice AT1 gt11a.ts.length cT1, .slice AN1 gt11a.ns.length cN1, .slice AR1 gt11a.rs.length cR1, .int .i64 gt11a.st] w6) := hide (HB2.out.on HW5.out.below)
  have l1 : w1.heap.size < w6.heap.size := HK1.out.size
  have l2 : w2.heap.size < w6.heap.size := HW5.out.size
  have y0 := (HY2.out w6 HW5.out).1
  have y1 := (HY2.out w6 HW5.out).2.1
  have y2 := (HY2.out w6 HW5.out).2.2.1
  have HRK := hide ((HR2.out.below HW5.out.below (Nat.le_refl _)).more HW5.out.below.size)
  have HLI := hide (fun (x : World) (h : RdI x x.heap.size A2 [1, 2]) => (show Calls Tryz.prog 22 #[.slice A2 2 c2, .slice (some ⟨x.heap.size, 0, none⟩) 2 2] (x.alloc (.cells #[.int .i64 1, .int .i64 2] 3)) _ from ints_same A2 (some ⟨x.heap.size, 0, none⟩) c2 2 [1, 2] (x.alloc (cellsI [1, 2])) ((h.alloc (Nat.le_refl _) _).more (by simp)) (litI1 x [1, 2]).1 (by decide)))
  clear HB1 HB2 HB3 HB4 HB5 HQ1 HQ2 HQ3 HF1 HR2
  go_wp2_with fail
  refine (HLI.out w6 HRK.out).mono ?_; rintro _ w7 ⟨rfl, n7, hw7⟩
  have HK7 : Hid (One w1 #[.slice AT1 gt11a.ts.length cT1, .slice AN1 gt11a.ns.length cN1, .slice AR1 gt11a.rs.length cR1, .int .i64 gt11a.st] w7) := hide (by rw [hw7]; exact (HK1.out.alloc _).drewN _)
  have HW7 : Hid (One w2 #[.slice B0 4 d0, .slice B1 1 d1, .slice B2 2 d2, .int .i64 st2] w7) := hide (by rw [hw7]; exact (HW5.out.alloc _).drewN _)
  clear hw7 HLI HRK y0 y1 y2 l1 l2
  obtain ⟨x0, x1, x2, x3⟩ := HY1.out w7 HK7.out
  have l1 : w1.heap.size < w7.heap.size := HK7.out.size
  go_wp2_with fail
  refine (HN1.out w7 HK7.out.below).mono ?_; rintro _ w8 ⟨q8, rfl, hq8, hu8, hb8⟩
  have HK8 := hide (HK7.out.on hb8)
  have HW8 := hide (HW7.out.on hb8)
  have HBO8 := hide (show Calls Tryz.prog 9 #[.slice (some ⟨q8, 0, none⟩) 3 3, .slice (some ⟨w8.heap.size, 0, none⟩) 3 3] (w8.alloc (.cells #[.bool true, .bool false, .bool false] 4)) _ from bools_same (some ⟨q8, 0, none⟩) (some ⟨w8.heap.size, 0, none⟩) 3 3 [true, false, false] (w8.alloc (cellsO [true, false, false])) (((hu8.rd0 hu8.lt).alloc (Nat.le_refl _) _).more (by simp)) (litO1 w8 [true, false, false]).1 (by decide))
  clear x0 x1 x2 x3 l1 hq8 hu8 hb8 HN1
  go_wp2_with fail
  refine HBO8.out.mono ?_; rintro _ w9 ⟨rfl, n9, hw9⟩
  have HK9 : Hid (One w1 #[.slice AT1 gt11a.ts.length cT1, .slice AN1 gt11a.ns.length cN1, .slice AR1 gt11a.rs.length cR1, .int .i64 gt11a.st] w9) := hide (by rw [hw9]; exact (HK8.out.alloc _).drewN _)
  have HW9 : Hid (One w2 #[.slice B0 4 d0, .slice B1 1 d1, .slice B2 2 d2, .int .i64 st2] w9) := hide (by rw [hw9]; exact (HW8.out.alloc _).drewN _)
  clear hw9 HBO8
  obtain ⟨x0, x1, x2, x3⟩ := HY1.out w9 HK9.out
  have l1 : w1.heap.size < w9.heap.size := HK9.out.size
  go_wp2_with fail
  refine (HP1.out w9 HK9.out.below).mono ?_; rintro _ w10 ⟨q10, rfl, hq10, hu10, hb10⟩
  have HK10 := hide (HK9.out.on hb10)
  have HW10 := hide (HW9.out.on hb10)
  have HBO10 := hide (show Calls Tryz.prog 9 #[.slice (some ⟨q10, 0, none⟩) 3 3, .slice (some ⟨w10.heap.size, 0, none⟩) 3 3] (w10.alloc (.cells #[.bool true, .bool false, .bool true] 4)) _ from bools_same (some ⟨q10, 0, none⟩) (some ⟨w10.heap.size, 0, none⟩) 3 3 [true, false, true] (w10.alloc (cellsO [true, false, true])) (((hu10.rd0 hu10.lt).alloc (Nat.le_refl _) _).more (by simp)) (litO1 w10 [true, false, true]).1 (by decide))
  clear x0 x1 x2 x3 l1 hq10 hu10 hb10 HP1
  go_wp2_with fail
  refine HBO10.out.mono ?_; rintro _ w11 ⟨rfl, n11, hw11⟩
  have HK11 : Hid (One w1 #[.slice AT1 gt11a.ts.length cT1, .slice AN1 gt11a.ns.length cN1, .slice AR1 gt11a.rs.length cR1, .int .i64 gt11a.st] w11) := hide (by rw [hw11]; exact (HK10.out.alloc _).drewN _)
  have HW11 : Hid (One w2 #[.slice B0 4 d0, .slice B1 1 d1, .slice B2 2 d2, .int .i64 st2] w11) := hide (by rw [hw11]; exact (HW10.out.alloc _).drewN _)
  clear hw11 HBO10
  obtain ⟨x0, x1, x2, x3⟩ := HY1.out w11 HK11.out
  have l1 : w1.heap.size < w11.heap.size := HK11.out.size
  go_wp2_with fail
  refine (HC1.out w11 HK11.out.below).mono ?_; rintro _ w12 ⟨q12, rfl, hq12, hu12, hb12⟩
  have HK12 := hide (HK11.out.on hb12)
  have HW12 := hide (HW11.out.on hb12)
  have HBO12 := hide (show Calls Tryz.prog 9 #[.slice (some ⟨q12, 0, none⟩) 3 3, .slice (some ⟨w12.heap.size, 0, none⟩) 3 3] (w12.alloc (.cells #[.bool true, .bool false, .bool false] 4)) _ from bools_same (some ⟨q12, 0, none⟩) (some ⟨w12.heap.size, 0, none⟩) 3 3 [true, false, false] (w12.alloc (cellsO [true, false, false])) (((hu12.rd0 hu12.lt).alloc (Nat.le_refl _) _).more (by simp)) (litO1 w12 [true, false, false]).1 (by decide))
  clear x0 x1 x2 x3 l1 hq12 hu12 hb12 HC1
  go_wp2_with fail
  refine HBO12.out.mono ?_; rintro _ w13 ⟨rfl, n13, hw13⟩
  have HK13 : Hid (One w1 #[.slice AT1 gt11a.ts.length cT1, .slice AN1 gt11a.ns.length cN1, .slice AR1 gt11a.rs.length cR1, .int .i64 gt11a.st] w13) := hide (by rw [hw13]; exact (HK12.out.alloc _).drewN _)
  have HW13 : Hid (One w2 #[.slice B0 4 d0, .slice B1 1 d1, .slice B2 2 d2, .int .i64 st2] w13) := hide (by rw [hw13]; exact (HW12.out.alloc _).drewN _)
  clear hw13 HBO12
  obtain ⟨x0, x1, x2, x3⟩ := HY2.out w13 HW13.out
  have l1 : w2.heap.size < w13.heap.size := HW13.out.size
  go_wp2_with fail
  refine (HI2.out w13 HW13.out.below).mono ?_; rintro _ w20 ⟨rfl, hb20⟩
  have HK20 := hide (HK13.out.on hb20)
  clear x0 x1 x2 x3 l1 hb20 HI2
  obtain ⟨x0, x1, x2, x3⟩ := HY1.out w20 HK20.out
  have l1 : w1.heap.size < w20.heap.size := HK20.out.size
  go_wp2_with fail
  refine (HI1.out w20 HK20.out.below).mono ?_; rintro _ w21 ⟨rfl, hb21⟩
  have HK21 := hide (HK20.out.on hb21)
  clear x0 x1 x2 x3 l1 hb21 HI1
  go_wp2
  go_ret
  exact ⟨rfl, HBF.out _ HK21.out⟩
end Go.Proofs.YtfiijndmlmddbaaGreat

namespace Go.Proofs.YtfiijndmlmddbaaGreat
set_option maxRecDepth 100000
open Go.RowKit

/-- The nonterminals that have come with those of the first i rules that are of use. -/
noncomputable def Gm.oR (G : Gm.Gr) (i : Nat) : List Int := Gm.ord [] (((G.rs.take i).filter (Gm.use G)).map Gm.Rl.l)
theorem Gm.oR_next {G : Gm.Gr} {i : Nat} (h : i < G.rs.length) : Gm.oR G (i + 1) = if Gm.use G G.rs[i] = true then (if (G.rs[i]).l ∈ Gm.oR G i then Gm.oR G i else Gm.oR G i ++ [(G.rs[i]).l]) else Gm.oR G i := by
  unfold Gm.oR
  rw [List.take_succ_eq_append_getElem h, List.filter_append, List.map_append]
  cases hu : Gm.use G G.rs[i]
  · simp [hu]
  · rw [show [G.rs[i]].filter (Gm.use G) = [G.rs[i]] by simp [hu], List.map_singleton, Gm.ord_snoc, if_pos rfl]
theorem Gm.oR_all (G : Gm.Gr) : Gm.oR G G.rs.length = Gm.olds G := by unfold Gm.oR Gm.olds Gm.krs; rw [List.take_length]
theorem Gm.oR_mem {G : Gm.Gr} (h : Gm.Ok G) {i : Nat} {j : Int} (hj : j ∈ Gm.oR G i) : 0 ≤ j ∧ j < G.ns.length := by
  unfold Gm.oR at hj
  rw [Gm.ord_mem] at hj
  rcases hj with hj | hj
  · simp at hj
  · obtain ⟨x, hx, rfl⟩ := List.mem_map.1 hj
    exact h.lin x (List.mem_of_mem_take (List.mem_filter.1 hx).1)
theorem Gm.oR_len {G : Gm.Gr} (h : Gm.Ok G) (i : Nat) : (Gm.oR G i).length ≤ G.ns.length := by
  have h1 := Gm.pigeons G.ns.length ((Gm.oR G i).map (· + 1)) ?_ ?_
  · simpa using h1.1
  · refine List.nodup_iff_pairwise_ne.2 ?_
    rw [List.pairwise_map]
    have : (Gm.oR G i).Nodup := Gm.ord_nodup _ _ (by simp)
    exact (List.nodup_iff_pairwise_ne.1 this).imp fun h e => h (by omega)
  · intro x hx
    obtain ⟨y, hy, rfl⟩ := List.mem_map.1 hx
    have := Gm.oR_mem h hy
    omega
theorem Gm.pos_neg {o : List Int} {l : Int} : Gm.pos o l < 0 ↔ l ∉ o := by
  constructor
  · intro h hm
    have := Gm.pos_lt hm
    omega
  · intro h; rw [Gm.pos_no h]; omega
theorem Gm.toL_in {G : Gm.Gr} (h : Gm.Ok G) (o : List Int) (ho : o.length ≤ G.ns.length) (n i : Nat) (hi : i < n) : -1 ≤ (Gm.toL n o).getD i 0 ∧ (Gm.toL n o).getD i 0 ≤ 1000 := by
  rw [Gm.toL_at hi]
  have h3 := (Gm.nons_iff G).1 h.n
  by_cases hm : (i : Int) ∈ o
  · have h1 := Gm.pos_lt hm
    omega
  · rw [Gm.pos_no hm]; omega
/-- The first places are laid. -/
theorem Gm.fill_to {n k : Nat} (h : k < n) : (List.replicate k (-1 : Int) ++ List.replicate (n - k) 0).set k (-1) = List.replicate (k + 1) (-1) ++ List.replicate (n - (k + 1)) 0 := by
  rw [List.set_append_right _ _ (by simp)]
  rw [List.length_replicate, Nat.sub_self, show n - k = (n - (k + 1)) + 1 by omega, List.replicate_succ, List.set_cons_zero, List.replicate_succ']
  simp

section
variable {w1 wr w' : World} {H gA base : Nat} {cs : Array Value} {vT vN vR vK : Value} {ts : List Gm.Tm} {ns : List (List Int)} {rs : List Gm.Rl} {an ks : List Int}
/-- A number more in the list of what is kept. -/
theorem RdS.other (h : RdS w1 wr H gA cs vT vN (.slice none 0 0) ts ns [] an) (ho : OwnI wr base vK ks) (hb : gA < base) (hg : wr.grownBy w' vK.ownBlock) : RdS w1 w' H gA cs vT vN (.slice none 0 0) ts ns [] an := by
  have hA := h.hA
  refine ⟨cells_row h.h ho (by decide) hg, World.ownsRow.kept h.t hg (other_row h.t ho (by decide)), World.ownsRow.kept h.nn hg (other_row h.nn ho (by decide)), OwnRl.nil _ _ _, h.a.grown hg (fun e => ?_), h.w.grown hg h.w.size (fun k e => ?_), h.hH, h.hA⟩
  · have := (World.ownsRow.lt ho gA e.symm).1
    omega
  · have := (World.ownsRow.lt ho k e).1
    omega
end
end Go.Proofs.YtfiijndmlmddbaaGreat

namespace Go.Proofs.YtfiijndmlmddbaaGreat
set_option maxRecDepth 100000
open Go.RowKit

set_option maxHeartbeats 8000000 in
theorem rReduce_any (v : Value) (G : Gm.Gr) (B : Nat) (w : World) (hg : RdGr w B v G) (hf : Gm.Fit G) (hB : B ≤ w.heap.size) :
    Calls Tryz.prog 20 #[v] w (RedAns G w) := by
  have H1 := hide (fun (x : World) (h : Below w.heap.size w x) => rright_any v G B x (hg.below h hB) hf (Nat.le_trans hB h.size))
  have H2 := hide (fun (x : World) (h : Below w.heap.size w x) => rproductive_any v G B x (hg.below h hB) hf (Nat.le_trans hB h.size))
  have H3 := hide (fun (x : World) (h : Below w.heap.size w x) => rreachable_any v G B x (hg.below h hB) hf (Nat.le_trans hB h.size))
  have hbg := fun w => build_gr11 w
  obtain ⟨AT, cT, AN, cN, AR, cR, rfl, _, ⟨hlN, hmN⟩, _, hT, hN, hR⟩ := hg
  have HRl := hide (fun (y : World) (h : Below w.heap.size w y) => hR.keep fun g o hg => h.cell (p := ⟨g, o, none⟩) (Nat.lt_of_lt_of_le hg hB))
  have HNm := hide (fun (y : World) (h : Below w.heap.size w y) => hN.keep fun g o hg => h.cell (p := ⟨g, o, none⟩) (Nat.lt_of_lt_of_le hg hB))
  have HTt := hide (fun (y : World) (h : Below w.heap.size w y) => hT.keep fun g o hg => h.cell (p := ⟨g, o, none⟩) (Nat.lt_of_lt_of_le hg hB))
  have HB := hide hB
  have HFT := hide hf
  obtain ⟨w1, hw1⟩ : ∃ y, y = (w.alloc (.cells #[.slice AT G.ts.length cT, .slice AN G.ns.length cN, .slice AR G.rs.length cR, .int .i64 G.st] 26)).alloc (.cells #[.slice none 0 0, .slice none 0 0, .slice none 0 0, .int .i64 0] 26) := ⟨_, rfl⟩
  have hs1 : w1.heap.size = w.heap.size + 2 := by rw [hw1]; simp
  have HB1 : Hid (Below w.heap.size w w1) := hide (by rw [hw1]; exact ((Below.refl _ w).alloc (Nat.le_refl _) _).alloc (by simp) _)
  have HX0 : Hid (w1.heap[w.heap.size]? = some (.cells #[.slice AT G.ts.length cT, .slice AN G.ns.length cN, .slice AR G.rs.length cR, .int .i64 G.st] 26 (0, 0))) := hide (by rw [hw1, Below.heap_alloc _ _ _ (by simp)]; exact heap_alloc_new w _)
  have HX1 : Hid (w1.heap[w.heap.size + 1]? = some (.cells #[.slice none 0 0, .slice none 0 0, .slice none 0 0, .int .i64 0] 26 (0, 0))) := hide (by rw [hw1]; have := heap_alloc_new (w.alloc (.cells #[.slice AT G.ts.length cT, .slice AN G.ns.length cN, .slice AR G.rs.length cR, .int .i64 G.st] 26)) (.cells #[.slice none 0 0, .slice none 0 0, .slice none 0 0, .int .i64 0] 26); simpa using this)
  have HS1 := hide hs1
  have HQ := hide (fun (y : World) (h : Below w1.heap.size w1 y) => (h.block w.heap.size (by omega)).trans HX0.out)
  have HZ := hide (fun (y : World) (h : Below w1.heap.size w1 y) => (h.block (w.heap.size + 1) (by omega)).trans HX1.out)
  have HBX := hide (fun (y : World) (h : Below w1.heap.size w1 y) => HB1.out.trans (h.mono (by omega)))
  have c0 : w1.cell? ⟨w.heap.size, 0, none⟩ = some (.slice AT G.ts.length cT) := by rw [cell_of_row w1 _ 0 _ _ _ HX0.out]; rfl
  have c1 : w1.cell? ⟨w.heap.size, 1, none⟩ = some (.slice AN G.ns.length cN) := by rw [cell_of_row w1 _ 1 _ _ _ HX0.out]; rfl
  have c2 : w1.cell? ⟨w.heap.size, 2, none⟩ = some (.slice AR G.rs.length cR) := by rw [cell_of_row w1 _ 2 _ _ _ HX0.out]; rfl
  have c3 : w1.cell? ⟨w.heap.size, 3, none⟩ = some (.int .i64 G.st) := by rw [cell_of_row w1 _ 3 _ _ _ HX0.out]; rfl
  have hd0 : w.heap.size < w1.heap.size := by omega
  clear hf hs1 hT hN hR hB
  cases q : Gm.right G
  · rw [q] at H1
    have HE := hide (Gm.rdE_no q)
    clear q H2 H3
    go_enter Tryz.func20, Tryz.ntmps20
    go_upto_region 1 with fail
    rw [← hw1]
    clear hw1
    go_wp2_with fail
    refine (H1.out _ HB1.out).mono ?_; rintro _ w2 ⟨rfl, hb2⟩
    have g0 : w2.cell? ⟨w.heap.size + 1, 0, none⟩ = some (.slice none 0 0) := by rw [cell_of_row w2 _ 0 _ _ _ (HZ.out w2 hb2)]; rfl
    have g1 : w2.cell? ⟨w.heap.size + 1, 1, none⟩ = some (.slice none 0 0) := by rw [cell_of_row w2 _ 1 _ _ _ (HZ.out w2 hb2)]; rfl
    have g2 : w2.cell? ⟨w.heap.size + 1, 2, none⟩ = some (.slice none 0 0) := by rw [cell_of_row w2 _ 2 _ _ _ (HZ.out w2 hb2)]; rfl
    have g3 : w2.cell? ⟨w.heap.size + 1, 3, none⟩ = some (.int .i64 0) := by rw [cell_of_row w2 _ 3 _ _ _ (HZ.out w2 hb2)]; rfl
    have e0 := frozen_of_row w2 _ 0 _ _ (HZ.out w2 hb2)
    have e1 := frozen_of_row w2 _ 1 _ _ (HZ.out w2 hb2)
    have e2 := frozen_of_row w2 _ 2 _ _ (HZ.out w2 hb2)
    have e3 := frozen_of_row w2 _ 3 _ _ (HZ.out w2 hb2)
    have lz := (Array.getElem?_eq_some_iff.1 (HZ.out w2 hb2)).1
    have HBF := hide (fun u1 u2 u3 u4 => ((((HBX.out w2 hb2).setCell (p := ⟨w.heap.size + 1, 0, none⟩) (by simp only; omega) u1).setCell (p := ⟨w.heap.size + 1, 1, none⟩) (by simp only; omega) u2).setCell (p := ⟨w.heap.size + 1, 2, none⟩) (by simp only; omega) u3).setCell (p := ⟨w.heap.size + 1, 3, none⟩) (by simp only; omega) u4)
    clear c0 c1 c2 c3 hb2 H1
    go_wp2
    refine bodyPost_ret (v := .tuple #[.agg #[.slice none 0 0, .slice none 0 0, .slice none 0 0, .int .i64 0], .slice none 0 0, .int .i64 1]) (by simp [results, Tryz.results20, go_sem, g0, g1, g2, g3]) rfl ?_
    exact RedAns.no HE.out (by decide) (HBF.out _ _ _ _)
  · have HQ1 := hide q
    have HOK := hide (Gm.right_ok.1 q)
    have H2 := hide (fun x h => (show Calls _ _ _ _ (RowT _ _) from (H2.out x h).mono fun e w' k => k.1 q))
    have H3 := hide (fun x h => (show Calls _ _ _ _ (RowT _ _) from (H3.out x h).mono fun e w' k => k.1 q))
    rw [q] at H1
    clear q
    have HUSE := hide (fun x hx => Gm.use_rcB HOK.out (x := x) hx)
    have HN40 : Hid (G.ns.length ≤ 40) := hide (by have := (Gm.nons_iff G).1 HOK.out.n; omega)
    have HT24 : Hid (G.ts.length ≤ 24) := hide (by have := HOK.out.t; unfold Gm.terms at this; rw [Bool.and_eq_true] at this; exact of_decide_eq_true this.1)
    have HR40 : Hid (G.rs.length ≤ 40) := hide HOK.out.r40
    obtain ⟨T, hT⟩ : ∃ x, x = Gm.gn true G.rs G.ns.length := ⟨_, rfl⟩
    have HTl : Hid (T.length = G.ns.length) := hide (by rw [hT, Gm.gn_len])
    rw [← hT] at H2 HUSE
    obtain ⟨R, hRr⟩ : ∃ x, x = Gm.rc G := ⟨_, rfl⟩
    have HRL : Hid (R.length = G.ns.length) := hide (by rw [hRr, Gm.rc_len])
    rw [← hRr] at H3 HUSE
    have hst := HOK.out.s0
    have hst1 := HOK.out.s1
    obtain ⟨m, hm⟩ : ∃ m : Nat, G.st = (m : Int) := ⟨G.st.toNat, by omega⟩
    obtain ⟨tb, htb⟩ : ∃ b, b = T.getD m false := ⟨_, rfl⟩
    have HTM : Hid (tb = Gm.tr (Gm.Gn true G.rs G.st)) := hide (by rw [htb, hT, Gm.gn_at _ _ _ _ (by omega), hm])
    have HTB := hide htb
    have HM := hide hm
    have hmn : m < G.ns.length := by omega
    have hmi : (m : Int) < (G.ns.length : Int) := by omega
    have hnn := HN40.out
    have hlenn : (G.ns.length : Int) ≤ 9223372036854775807 := by omega
    have hlenr : (G.rs.length : Int) ≤ 9223372036854775807 := by have := HR40.out; omega
    clear hT hst hst1 hm htb hRr
    go_enter Tryz.func20, Tryz.ntmps20
    go_upto_region 1 with fail
    rw [← hw1]
    clear hw1
    go_upto_region 3 with fail
    refine (H1.out _ HB1.out).mono ?_; rintro _ w2 ⟨rfl, hb2⟩
    have HB2 := hide hb2
    clear hb2 c0 c1 c2 c3 H1
    go_upto_region 3 with fail
    go_cut [5, 6] (fun v5 v6 wx => ∃ gp gr, v5 = .slice (some ⟨gp, 0, none⟩) G.ns.length G.ns.length ∧ v6 = .slice (some ⟨gr, 0, none⟩) G.ns.length G.ns.length ∧ UBO wx gp T ∧ UBO wx gr R ∧ Below w1.heap.size w1 wx)
    case first =>
      have q0 := fun y : Calm.On w2.heap.size w2 => (show y.1.cell? ⟨w.heap.size, 0, none⟩ = some (.slice AT G.ts.length cT) by rw [cell_of_row y.1 _ 0 _ _ _ (HQ.out y.1 (HB2.out.trans (y.2.mono HB2.out.size)))]; rfl)
      have q1 := fun y : Calm.On w2.heap.size w2 => (show y.1.cell? ⟨w.heap.size, 1, none⟩ = some (.slice AN G.ns.length cN) by rw [cell_of_row y.1 _ 1 _ _ _ (HQ.out y.1 (HB2.out.trans (y.2.mono HB2.out.size)))]; rfl)
      have q2 := fun y : Calm.On w2.heap.size w2 => (show y.1.cell? ⟨w.heap.size, 2, none⟩ = some (.slice AR G.rs.length cR) by rw [cell_of_row y.1 _ 2 _ _ _ (HQ.out y.1 (HB2.out.trans (y.2.mono HB2.out.size)))]; rfl)
      have q3 := fun y : Calm.On w2.heap.size w2 => (show y.1.cell? ⟨w.heap.size, 3, none⟩ = some (.int .i64 G.st) by rw [cell_of_row y.1 _ 3 _ _ _ (HQ.out y.1 (HB2.out.trans (y.2.mono HB2.out.size)))]; rfl)
      have HD2 : Hid (Below w2.heap.size w2 w2.drew) := hide (below_drewN (Below.refl _ _) 1)
      refine CalmN.region_tree (fun x => ∃ y : Calm.On w2.heap.size w2, x = y.1) (.one [0, 2] 1 (.one [] 3 (.fin [4, 5]))) (by kernel_rfl) (by kernel_rfl) (fun _ _ d _ _ h => by cases d <;> exact h) ⟨⟨w2.drew, HD2.out⟩, rfl⟩ ?_
      simp only [CalmN.wpT, CalmN.wpSt, CalmN.pickOps, List.getElem?_toArray, List.getElem?_cons_zero, List.getElem?_cons_succ]
      repeat (go_big_quiet_step (fail))
      refine wpQuiet_nil ?_
      clear q0 q1 q2 q3
      obtain ⟨wd, hwd⟩ : ∃ y, y = w2.drew := ⟨_, rfl⟩
      rw [← hwd] at HD2 ⊢
      clear hwd
      intro KK hKK
      rw [if_pos (by rfl)]
      go_wp2_with fail
      refine (H2.out wd (HBX.out _ (HB2.out.trans (HD2.out.mono HB2.out.size)))).mono ?_; rintro _ w3 ⟨ga, rfl, hga, hua, hb3⟩
      rw [HTl.out]
      have hb3' : Below w2.heap.size w2 w3 := HD2.out.trans (hb3.mono HD2.out.size)
      have HW3 := hide (HB2.out.trans (hb3'.mono HB2.out.size))
      go_wp2_with fail
      refine hKK _ _ ⟨⟨w3, hb3'⟩, rfl⟩ (fun x => ∃ y : Calm.On w2.heap.size w2, x = y.1) (fun _ h => h) ⟨⟨w3, hb3'⟩, rfl⟩ ?_
      refine wpQuiet_nil ?_
      intro KK hKK
      rw [if_pos (by rfl)]
      go_wp2_with fail
      refine (H3.out w3 (HBX.out _ HW3.out)).mono ?_; rintro _ w4 ⟨gb, rfl, hgb, hub, hb4⟩
      rw [HRL.out]
      have hb4' : Below w2.heap.size w2 w4 := hb3'.trans (hb4.mono hb3'.size)
      go_wp2_with fail
      refine hKK _ _ ⟨⟨w4, hb4'⟩, rfl⟩ (fun x => ∃ y : Calm.On w2.heap.size w2, x = y.1) (fun _ h => h) ⟨⟨w4, hb4'⟩, rfl⟩ ?_
      repeat (go_big_quiet_step (fail))
      refine wpQuiet_nil ?_
      go_wp2_with fail
      go_meet
      case rel => exact ⟨ga, gb, rfl, rfl, hua.below hb4 hua.lt, hub, HW3.out.trans (hb4.mono HW3.out.size)⟩
    case rest =>
      obtain ⟨gp, gr, rfl, rfl, hup, hur, hbc⟩ := hcut
      have HUP := hide hup
      have HUR := hide hur
      have HBC := hide hbc
      have q3 : wc.cell? ⟨w.heap.size, 3, none⟩ = some (.int .i64 m) := by rw [cell_of_row wc _ 3 _ _ _ (HQ.out wc hbc), ← HM.out]; rfl
      have km := hup.cell m (by rw [HTl.out]; exact hmn)
      rw [← HTB.out] at km
      have lq := block_lt_of_cell q3
      have lp := hup.lt
      clear hup hur hbc H2 H3 HB2
      cases hp : Gm.tr (Gm.Gn true G.rs G.st)
      · have HE := hide (Gm.rdE_empty HQ1.out hp)
        obtain rfl : tb = false := HTM.out.trans hp
        have g0 : wc.cell? ⟨w.heap.size + 1, 0, none⟩ = some (.slice none 0 0) := by rw [cell_of_row wc _ 0 _ _ _ (HZ.out wc HBC.out)]; rfl
        have g1 : wc.cell? ⟨w.heap.size + 1, 1, none⟩ = some (.slice none 0 0) := by rw [cell_of_row wc _ 1 _ _ _ (HZ.out wc HBC.out)]; rfl
        have g2 : wc.cell? ⟨w.heap.size + 1, 2, none⟩ = some (.slice none 0 0) := by rw [cell_of_row wc _ 2 _ _ _ (HZ.out wc HBC.out)]; rfl
        have g3 : wc.cell? ⟨w.heap.size + 1, 3, none⟩ = some (.int .i64 0) := by rw [cell_of_row wc _ 3 _ _ _ (HZ.out wc HBC.out)]; rfl
        have e0 := frozen_of_row wc _ 0 _ _ (HZ.out wc HBC.out)
        have e1 := frozen_of_row wc _ 1 _ _ (HZ.out wc HBC.out)
        have e2 := frozen_of_row wc _ 2 _ _ (HZ.out wc HBC.out)
        have e3 := frozen_of_row wc _ 3 _ _ (HZ.out wc HBC.out)
        have lz := (Array.getElem?_eq_some_iff.1 (HZ.out wc HBC.out)).1
        have HBF := hide (fun u1 u2 u3 u4 => ((((HBX.out wc HBC.out).setCell (p := ⟨w.heap.size + 1, 0, none⟩) (by simp only; omega) u1).setCell (p := ⟨w.heap.size + 1, 1, none⟩) (by simp only; omega) u2).setCell (p := ⟨w.heap.size + 1, 2, none⟩) (by simp only; omega) u3).setCell (p := ⟨w.heap.size + 1, 3, none⟩) (by simp only; omega) u4)
        clear hp HTM HTB
        go_wp2
        refine bodyPost_ret (v := .tuple #[.agg #[.slice none 0 0, .slice none 0 0, .slice none 0 0, .int .i64 0], .slice none 0 0, .int .i64 9]) (by simp [results, Tryz.results20, go_sem, g0, g1, g2, g3]) rfl ?_
        exact RedAns.no HE.out (by decide) (HBF.out _ _ _ _)
      · have HE := hide (Gm.rdE_ok HQ1.out hp)
        have HPS := hide (Gm.tr_iff.1 hp)
        obtain rfl : tb = true := HTM.out.trans hp
        clear hp HTM HTB
        have HQC := hide (fun (y : World) (h : Below wc.heap.size wc y) => HQ.out y (HBC.out.trans (h.mono HBC.out.size)))
        have HBW := hide (fun (y : World) (h : Below wc.heap.size wc y) => HBX.out y (HBC.out.trans (h.mono HBC.out.size)))
        have c0 : wc.cell? ⟨w.heap.size, 0, none⟩ = some (.slice AT G.ts.length cT) := by rw [cell_of_row wc _ 0 _ _ _ (HQ.out wc HBC.out)]; rfl
        go_upto_region 7 with (at_builtin; refine apTs_arm rfl (.tmp 33) (.tmp 35) _ rfl Tryz.underlying22 wc.heap.size _ [] rfl (ownTm_empty wc) B G.ts.length cT AT G.ts rfl rfl (HTt.out _ ((HBX.out _ HBC.out).alloc (HBX.out _ HBC.out).size _)) (by have := HT24.out; simp; omega) (by simp) ?_; intro v2 w5 ho5 hg5; have HO5 := hide ho5; have HB5 := hide (((Below.refl wc.heap.size wc).alloc (Nat.le_refl _) (.cells #[] 61)).grown hg5 (by simp) (fun k e => (own_holds (ownTm_empty wc) e).1)); obtain ⟨A2, c2, rfl, _, _⟩ := own_form ho5; clear ho5 hg5)
        obtain ⟨w6, hw6⟩ : ∃ y, y = w5.alloc (.cells #[.slice A2 G.ts.length c2, .slice none 0 0, .slice none 0 0, .int .i64 0] 26) := ⟨_, rfl⟩
        have HB6 : Hid (Below wc.heap.size wc w6) := hide (by rw [hw6]; exact HB5.out.alloc HB5.out.size _)
        have HO6 : Hid (OwnTm w6 wc.heap.size (.slice A2 G.ts.length c2) G.ts) := hide (by rw [hw6]; exact World.ownsRow.alloc HO5.out _)
        have HH6 : Hid (w6.heap[w5.heap.size]? = some (.cells #[.slice A2 G.ts.length c2, .slice none 0 0, .slice none 0 0, .int .i64 0] 26 (0, 0))) := hide (by rw [hw6]; exact heap_alloc_new w5 _)
        rw [← hw6]
        clear hw6 HO5 c0 q3 km lq
        have c1 : w6.cell? ⟨w.heap.size, 1, none⟩ = some (.slice AN G.ns.length cN) := by rw [cell_of_row w6 _ 1 _ _ _ (HQC.out w6 HB6.out)]; rfl
        have l6 := block_lt_of_cell c1
        go_upto_region 8 with (at_make; refine mkI_arm rfl (.tmp 40) (.tmp 40) _ rfl Tryz.underlying33 G.ns.length _ _ rfl rfl rfl rfl (by omega) ?_; intro w7 hu7 hb7 hlt7)
        have HS7 : Hid (RdS wc w7 w5.heap.size w6.heap.size #[.slice A2 G.ts.length c2, .slice none 0 0, .slice none 0 0, .int .i64 0] (.slice A2 G.ts.length c2) (.slice none 0 0) (.slice none 0 0) G.ts [] [] (List.replicate G.ns.length 0)) := hide
          ⟨heap_keep hb7 HH6.out, World.ownsRow.kept HO6.out (only_below hb7 .none) (none_away _), OwnN.nil _ _, OwnRl.nil _ _ _, hu7, HB6.out.trans (hb7.mono HB6.out.size), HB5.out.size, HB6.out.size⟩
        obtain ⟨vT, hvT⟩ : ∃ v, v = Value.slice A2 G.ts.length c2 := ⟨_, rfl⟩
        obtain ⟨H, hH⟩ : ∃ x, x = w5.heap.size := ⟨_, rfl⟩
        obtain ⟨gA, hgA⟩ : ∃ x, x = w6.heap.size := ⟨_, rfl⟩
        rw [← hvT, ← hH, ← hgA] at HS7
        rw [← hvT, ← hH, ← hgA]
        clear hvT hH hgA hu7 hb7 c1 l6 hlt7 HO6 HH6 HB6 HB5
        go_wp2
        go_loopw [9] (fun vk wr => ∃ (k : Nat), k ≤ G.ns.length ∧ vk = .int .i64 k ∧ Hid (RdS wc wr H gA #[vT, .slice none 0 0, .slice none 0 0, .int .i64 0] vT (.slice none 0 0) (.slice none 0 0) G.ts [] [] (List.replicate k (-1) ++ List.replicate (G.ns.length - k) 0))) (fun vk _ => G.ns.length - (intOf vk).toNat)
        case atStart => exact ⟨0, Nat.zero_le _, rfl, by simpa using HS7⟩
        case round =>
          clear HS7
          obtain ⟨k, hk, rfl, HS⟩ := hrel
          by_cases hlt : k < G.ns.length
          · have ka := HS.out.a.cell k (by simp; omega)
            have fa := HS.out.a.frozen k
            have la := HS.out.a.lt
            have HS2 := hide (HS.out.setA k (-1))
            rw [Gm.fill_to hlt] at HS2
            go_wp2
            go_roundw
            case rel => exact ⟨k + 1, hlt, by go_num, HS2⟩
            case measure => simp [intOf]; omega
          · obtain rfl : k = G.ns.length := by omega
            rw [Nat.sub_self, List.replicate_zero, List.append_nil, ← Gm.toL_nil] at HS
            go_wp2
            go_loopw [10, 11] (fun v10 v11 wr => ∃ (i : Nat) (vN : Value), i ≤ G.rs.length ∧ v11 = .int .i64 i ∧ Hid (RdS wc wr H gA #[vT, vN, .slice none 0 0, .int .i64 0] vT vN (.slice none 0 0) G.ts (Gm.nmL G (Gm.oR G i)) [] (Gm.toL G.ns.length (Gm.oR G i))) ∧ Hid (OwnI wr (gA + 1) v10 (Gm.kl G i))) (fun _ v11 _ => G.rs.length - (intOf v11).toNat)
            case atStart => exact ⟨0, _, Nat.zero_le _, rfl, HS, hide (OwnI.nil _ _)⟩
            case round =>
              clear HS hlt
              obtain ⟨i, vN, hi, rfl, HS, HK⟩ := hrel
              by_cases hlt : i < G.rs.length
              · obtain ⟨g, o, rfl, hgB, hc⟩ := HRl.out w1 HB1.out (by omega)
                obtain ⟨k0, ⟨A', c', k1, _, _, hri⟩, k2⟩ := hc i hlt
                have hgw : g < w1.heap.size := by have := HB.out; have := HS1.out; omega
                have HW1 := hide (fun (y : World) (h : Below wc.heap.size wc y) => HBC.out.trans (h.mono HBC.out.size))
                have k0 := ((HW1.out wr HS.out.w).cell (p := ⟨g, o + i * 3, none⟩) hgw).trans k0
                have k1 := ((HW1.out wr HS.out.w).cell (p := ⟨g, o + i * 3 + 1, none⟩) hgw).trans k1
                have k2 := ((HW1.out wr HS.out.w).cell (p := ⟨g, o + i * 3 + 2, none⟩) hgw).trans k2
                have hxm : G.rs[i] ∈ G.rs := List.getElem_mem hlt
                have e := HFT.out.r _ hxm
                have hxl := HOK.out.lin _ hxm
                have hr6 := (Gm.rule_in (HOK.out.rr _ hxm)).1
                have HNX := hide (Gm.kl_next hlt)
                have HON := hide (Gm.oR_next hlt)
                have HUS := hide (HUSE.out _ hxm)
                have HOL := hide (Gm.oR_len HOK.out i)
                have HKL := hide (Nat.le_trans (Gm.kl_len G i) hi)
                have HAL := hide (fun (y : World) (h : Below wc.heap.size wc y) => rall_any G.rs[i].r T true A' (some ⟨gp, 0, none⟩) c' G.ns.length B wc.heap.size y (hri.keep fun g o hg => (HW1.out y h).cell (p := ⟨g, o, none⟩) (by have := HB.out; have := HS1.out; simp only; omega)) e.2.2 (fun z hz h0 => by rw [HTl.out]; exact HOK.out.sin _ hxm z hz h0) ((HUP.out.rd0 HUP.out.lt).below h (Nat.le_refl _)) (by omega))
                rw [HTl.out] at HAL
                generalize G.rs[i] = x at *
                obtain ⟨l, r, pz⟩ := x
                simp only at k0 k1 k2 HAL hxl hr6 HON
                obtain ⟨ml, rfl⟩ : ∃ m : Nat, l = (m : Int) := ⟨l.toNat, by omega⟩
                have hmli := hxl.2
                have hmln : ml < G.ns.length := by omega
                have HE0 : Hid (Gm.rcB T R ⟨ml, r, pz⟩ = (R.getD ml false && Gm.allB true T r)) := hide (by simp [Gm.rcB])
                have HUE := hide (HUS.out.symm.trans HE0.out)
                generalize Gm.use G ⟨(ml : Int), r, pz⟩ = ub at *
                have q2 : wr.cell? ⟨w.heap.size, 2, none⟩ = some (.slice (some ⟨g, o, none⟩) G.rs.length cR) := by rw [cell_of_row wr _ 2 _ _ _ (HQC.out wr HS.out.w)]; rfl
                have lq := block_lt_of_cell q2
                have lg := block_lt_of_cell k0
                have kr := (HS.out.w.cell (p := ⟨gr, ml, none⟩) HUR.out.lt).trans (HUR.out.cell ml (by rw [HRL.out]; exact hmln))
                have lr := block_lt_of_cell kr
                have HS1' := hide (HS.out.alloc (.cells #[.int .i64 ml, .slice A' r.length c', .int .i64 pz] 40))
                have HK1 := hide (HK.out.alloc (.cells #[.int .i64 ml, .slice A' r.length c', .int .i64 pz] 40))
                have HD1 := hide (heap_alloc_new wr (.cells #[.int .i64 ml, .slice A' r.length c', .int .i64 pz] 40))
                clear hc hri e hxm hxl HUS HE0
                generalize R.getD ml false = rb at *
                cases rb
                · obtain rfl : ub = false := HUE.out
                  have HX : Hid (Gm.kl G (i + 1) = Gm.kl G i) := hide (HNX.out.trans (if_neg (by simp)))
                  have HX2 : Hid (Gm.oR G (i + 1) = Gm.oR G i) := hide (HON.out.trans (if_neg (by simp)))
                  clear HNX HON HUE
                  go_wp2
                  go_roundw
                  case rel => exact ⟨i + 1, vN, hlt, by go_num, by rw [HX2.out]; exact HS1', by rw [HX.out]; exact HK1⟩
                  case measure => simp [intOf]; omega
                · have HAW := hide (HAL.out _ HS1'.out.w)
                  generalize Gm.allB true T r = ab at *
                  cases ab
                  · obtain rfl : ub = false := HUE.out
                    have HX : Hid (Gm.kl G (i + 1) = Gm.kl G i) := hide (HNX.out.trans (if_neg (by simp)))
                    have HX2 : Hid (Gm.oR G (i + 1) = Gm.oR G i) := hide (HON.out.trans (if_neg (by simp)))
                    clear HNX HON HUE HAL
                    go_wp2_with fail
                    refine HAW.out.mono ?_; rintro _ w8 ⟨rfl, hw8⟩
                    subst hw8
                    go_wp2
                    go_roundw
                    case rel => exact ⟨i + 1, vN, hlt, by go_num, by rw [HX2.out]; exact HS1', by rw [HX.out]; exact HK1⟩
                    case measure => simp [intOf]; omega
                  · obtain rfl : ub = true := HUE.out
                    have HX : Hid (Gm.kl G (i + 1) = Gm.kl G i ++ [(i : Int)]) := hide (HNX.out.trans (if_pos rfl))
                    have HON2 := hide (HON.out.trans (if_pos rfl))
                    have HAl : Hid (gA < wr.heap.size) := hide HS.out.a.lt
                    clear HNX HON HUE HAL
                    go_upto_region 18 with fail
                    refine HAW.out.mono ?_; rintro _ w8 ⟨rfl, hw8⟩
                    subst hw8
                    go_upto_region 18 with fail
                    obtain ⟨w8, hw8⟩ : ∃ y, y = wr.alloc (.cells #[.int .i64 ml, .slice A' r.length c', .int .i64 pz] 40) := ⟨_, rfl⟩
                    have HZ8 : Hid (w8.heap.size = wr.heap.size + 1) := hide (by rw [hw8]; simp)
                    rw [← hw8] at HS1' HK1 HD1 ⊢
                    clear hw8 k0 k1 k2 q2 lq lg kr lr HAW
                    go_upto_region 19 with (at_builtin; refine apI_arm rfl (.tmp 76) (.tmp 78) _ rfl Tryz.underlying33 (gA + 1) _ _ rfl (HK1.out.alloc _) _ 1 i rfl (World.cell?_alloc_new _ _ _ 0) (by have := HKL.out; have := HR40.out; omega) (by have := HAl.out; have := HZ8.out; simp; omega) ?_; intro v' w9 ho9 hg9; have HS9 := hide ((HS1'.out.alloc _).other (HK1.out.alloc _) (by omega) hg9); have HK9 := hide ho9; have HD9 := hide (cells_row (heap_keep ((Below.refl _ _).alloc (Nat.le_refl _) _) HD1.out) (HK1.out.alloc _) (by decide) hg9); clear ho9 hg9)
                    clear HS1' HK1 HD1
                    have d0 : w9.cell? ⟨wr.heap.size, 0, none⟩ = some (.int .i64 ml) := by rw [cell_of_row w9 _ 0 _ _ _ HD9.out]; rfl
                    have ld := (Array.getElem?_eq_some_iff.1 HD9.out).1
                    have kt := HS9.out.a.cell ml (by rw [Gm.toL_len]; exact hmln)
                    rw [Gm.toL_at hmln] at kt
                    have lt9 := HS9.out.a.lt
                    by_cases hin : (ml : Int) ∈ Gm.oR G i
                    · have HX2 := hide (HON2.out.trans (if_pos hin))
                      have hq : decide (Gm.pos (Gm.oR G i) ml < 0) = false := decide_eq_false (fun h => Gm.pos_neg.1 h hin)
                      generalize Gm.pos (Gm.oR G i) ml = pq at *
                      clear hin HON2
                      go_wp2
                      go_roundw
                      case rel => exact ⟨i + 1, vN, hlt, by go_num, by rw [HX2.out]; exact HS9, by rw [HX.out]; exact HK9⟩
                      case measure => simp [intOf]; omega
                    · have HX2 := hide (HON2.out.trans (if_neg hin))
                      have hq : decide (Gm.pos (Gm.oR G i) ml < 0) = true := decide_eq_true (Gm.pos_neg.2 hin)
                      have HIN := hide hin
                      obtain ⟨A9, c9, rfl, _, _⟩ := own_form HS9.out.nn
                      have hnl : (Gm.nmL G (Gm.oR G i)).length = (Gm.oR G i).length := by simp [Gm.nmL]
                      have HNM : Hid (Gm.nmL G (Gm.oR G (i + 1)) = Gm.nmL G (Gm.oR G i) ++ [G.ns.getD ml []]) := hide (by rw [HX2.out]; simp [Gm.nmL])
                      have j1 : w9.cell? ⟨H, 1, none⟩ = some (.slice A9 (Gm.nmL G (Gm.oR G i)).length c9) := by rw [cell_of_row w9 _ 1 _ _ _ HS9.out.h]; rfl
                      have lh := block_lt_of_cell j1
                      have fa := HS9.out.a.frozen ml
                      have HS10 : Hid (RdS wc (w9.setCell ⟨gA, ml, none⟩ (.int .i64 (Gm.nmL G (Gm.oR G i)).length)) H gA #[vT, .slice A9 (Gm.nmL G (Gm.oR G i)).length c9, .slice none 0 0, .int .i64 0] vT (.slice A9 (Gm.nmL G (Gm.oR G i)).length c9) (.slice none 0 0) G.ts (Gm.nmL G (Gm.oR G i)) [] (Gm.toL G.ns.length (Gm.oR G (i + 1)))) := hide (by
                        have q := HS9.out.setA ml ((Gm.nmL G (Gm.oR G i)).length : Int)
                        rw [hnl] at q
                        rw [HX2.out, ← Gm.toL_snoc HIN.out]
                        rw [hnl]
                        exact q)
                      have HK10 := hide (HK9.out.far (only_set (World.grownBy.refl w9 (some gA)) ml (.int .i64 (Gm.nmL G (Gm.oR G i)).length)) (by omega))
                      have HD10 := hide ((Below.heap_setCell w9 ⟨gA, ml, none⟩ (.int .i64 (Gm.nmL G (Gm.oR G i)).length) wr.heap.size (by have := HAl.out; simp only; omega)).trans HD9.out)
                      generalize Gm.pos (Gm.oR G i) ml = pq at *
                      clear hin HON2 hnl
                      go_upto_region 21 with fail
                      obtain ⟨wz, hwz⟩ : ∃ y, y = w9.setCell ⟨gA, ml, none⟩ (.int .i64 (Gm.nmL G (Gm.oR G i)).length) := ⟨_, rfl⟩
                      rw [← hwz] at HS10 HK10 HD10 ⊢
                      clear hwz HS9 HK9 HD9 d0 ld kt lt9 j1 lh fa
                      obtain ⟨gN, oN, rfl, hgN, hcN⟩ := HNm.out w1 HB1.out (by omega)
                      have kN := hcN ml hmln
                      rw [show G.ns[ml] = G.ns.getD ml [] by rw [List.getD_eq_getElem?_getD, List.getElem?_eq_getElem hmln]; rfl] at kN
                      obtain ⟨nm, hnm⟩ : ∃ s, s = G.ns.getD ml [] := ⟨_, rfl⟩
                      rw [← hnm] at kN HNM
                      clear hnm
                      have hgn : gN < w1.heap.size := by have := HB.out; have := HS1.out; omega
                      have HYW := hide (fun (y : World) (h : Below wc.heap.size wz y) => HS10.out.w.trans h)
                      have bN := fun y : On9 wc.heap.size wr.heap.size wz => ((HW1.out y.1 (HYW.out y.1 y.2.1)).cell (p := ⟨gN, oN + ml, none⟩) hgn).trans kN
                      have bq := fun y : On9 wc.heap.size wr.heap.size wz => (show y.1.cell? ⟨w.heap.size, 1, none⟩ = some (.slice (some ⟨gN, oN, none⟩) G.ns.length cN) by rw [cell_of_row y.1 _ 1 _ _ _ (HQC.out y.1 (HYW.out y.1 y.2.1))]; rfl)
                      have bd := fun y : On9 wc.heap.size wr.heap.size wz => (show y.1.cell? ⟨wr.heap.size, 0, none⟩ = some (.int .i64 ml) by rw [cell_of_row y.1 _ 0 _ _ _ (y.2.2.trans HD10.out)]; rfl)
                      have HS8 := hide HS10.out.drew
                      have HK8 : Hid (OwnI wz.drew (gA + 1) v' (Gm.kl G i ++ [(i : Int)])) := hide (HK10.out.drewN 1)
                      have HP8 : Hid (Below wc.heap.size wz wz.drew ∧ wz.drew.heap[wr.heap.size]? = wz.heap[wr.heap.size]?) := hide ⟨below_drewN (Below.refl _ _) 1, rfl⟩
                      refine CalmN.region_tree (fun x => ∃ y : On9 wc.heap.size wr.heap.size wz, x = y.1) (.two [0, 2, 3, 4, 5, 6, 7] 1 (.one [] 8 (.one [] 9 (.one [10] 11 (.fin [])))) 8 (.one [] 1 (.one [] 9 (.one [10] 11 (.fin []))))) (by kernel_rfl) (by kernel_rfl) (fun _ _ d _ _ h => by cases d <;> exact h) ⟨⟨wz.drew, HP8.out⟩, rfl⟩ ?_
                      simp only [CalmN.wpT, CalmN.wpSt, CalmN.pickOps, List.getElem?_toArray, List.getElem?_cons_zero, List.getElem?_cons_succ]
                      repeat (go_big_quiet_step (fail))
                      refine wpQuiet_nil ?_
                      clear bN bq bd kN hcN
                      obtain ⟨w8', hw8⟩ : ∃ y, y = wz.drew := ⟨_, rfl⟩
                      rw [← hw8] at HS8 HK8 HP8 ⊢
                      clear hw8 HS10 HK10
                      have HS9 := hide (HS8.out.alloc (.cells #[.string (K.str nm)] 9))
                      have HK9 := hide (HK8.out.alloc (.cells #[.string (K.str nm)] 9))
                      have HP9 : Hid (Below wc.heap.size wz (w8'.alloc (.cells #[.string (K.str nm)] 9)) ∧ (w8'.alloc (.cells #[.string (K.str nm)] 9)).heap[wr.heap.size]? = wz.heap[wr.heap.size]?) := hide ⟨HP8.out.1.alloc HS8.out.w.size _, (Below.heap_alloc w8' _ _ (Array.getElem?_eq_some_iff.1 (HP8.out.2.trans HD10.out)).1).trans HP8.out.2⟩
                      have HY9 : Hid ((w8'.alloc (.cells #[.string (K.str nm)] 9)).cell? ⟨w8'.heap.size, 0, none⟩ = some (.string (K.str nm))) := hide (World.cell?_alloc_new _ _ _ 0)
                      have n8 := cell_of_row w8' _ 1 _ _ _ HS8.out.h
                      have n9 := cell_of_row _ _ 1 _ _ _ HS9.out.h
                      have lh8 := (Array.getElem?_eq_some_iff.1 HS8.out.h).1
                      have lh9 := (Array.getElem?_eq_some_iff.1 HS9.out.h).1
                      refine ⟨?_, ?_⟩
                      · intro KK hKK
                        rw [if_pos (by rfl)]
                        go_wp2_with fail
                        refine hKK _ _ ⟨⟨_, HP8.out⟩, rfl⟩ (fun x => ∃ y : On9 wc.heap.size wr.heap.size wz, x = y.1) (fun _ h => h) ⟨⟨_, HP8.out⟩, rfl⟩ ?_
                        refine wpQuiet_nil ?_
                        intro KK hKK
                        rw [if_pos (by rfl)]
                        go_wp2_with fail
                        refine hKK _ _ ⟨⟨_, HP9.out⟩, rfl⟩ (fun x => ∃ y : On9 wc.heap.size wr.heap.size wz, x = y.1) (fun _ h => h) ⟨⟨_, HP9.out⟩, rfl⟩ ?_
                        refine wpQuiet_nil ?_
                        intro KK hKK
                        rw [if_pos (by rfl)]
                        refine apN_wp (.tmp 94) (.tmp 101) _ rfl Tryz.underlying23 wc.heap.size _ _ rfl HS9.out.nn w8'.heap.size 1 _ rfl HY9.out (by have := HOL.out; have := HN40.out; unfold Gm.nmL; rw [List.length_map]; omega) HS9.out.w.size ?_
                        intro v2' w10 ho10 hg10
                        have HS10 := hide (HS9.out.putN ho10 hg10)
                        have HK10 : Hid (OwnI w10 (gA + 1) v' (Gm.kl G i ++ [(i : Int)])) := hide (World.ownsRow.kept HK9.out hg10 (other_row HK9.out HS9.out.nn (by decide)))
                        have HP10 : Hid (Below wc.heap.size wz w10 ∧ w10.heap[wr.heap.size]? = wz.heap[wr.heap.size]?) := hide ⟨HP9.out.1.grown hg10 HS9.out.w.size (fun k e => (own_holds HS9.out.nn e).1), (cells_row (HP9.out.2.trans HD10.out) HS9.out.nn (by decide) hg10).trans HD10.out.symm⟩
                        obtain ⟨A10, c10, rfl, _, _⟩ := own_form ho10
                        clear ho10 hg10
                        obtain ⟨n10, hn10⟩ : ∃ n, n = (Gm.nmL G (Gm.oR G i) ++ [nm]).length := ⟨_, rfl⟩
                        rw [← hn10] at HS10 ⊢
                        clear hn10
                        refine hKK _ _ ⟨⟨w10, HP10.out⟩, rfl⟩ (fun x => ∃ y : On9 wc.heap.size wr.heap.size wz, x = y.1) (fun _ h => h) ⟨⟨w10, HP10.out⟩, rfl⟩ ?_
                        go_frame
                        repeat (go_big_quiet_step (fail))
                        refine wpQuiet_nil ?_
                        intro KK hKK
                        rw [if_pos (by rfl)]
                        have j1 := cell_of_row w10 _ 1 _ _ _ HS10.out.h
                        have f1 := frozen_of_row w10 _ 1 _ _ HS10.out.h
                        have lh := (Array.getElem?_eq_some_iff.1 HS10.out.h).1
                        have HS11 := hide (HS10.out.setH 1 (.slice A10 n10 c10))
                        have HK11 : Hid (OwnI (w10.setCell ⟨H, 1, none⟩ (.slice A10 n10 c10)) (gA + 1) v' (Gm.kl G i ++ [(i : Int)])) := hide (World.ownsRow.kept HK10.out (only_set (World.grownBy.refl w10 (some H)) 1 _) (own_away HK10.out HS10.out.h (fun cur e => by injection e with _ e; cases e)))
                        have hHD : wr.heap.size ≠ H := fun e => by have h1 := HP10.out.2.trans HD10.out; rw [e, HS10.out.h] at h1; injection h1 with h1; injection h1 with _ h1; cases h1
                        have HP11 : Hid (Below wc.heap.size wz (w10.setCell ⟨H, 1, none⟩ (.slice A10 n10 c10)) ∧ (w10.setCell ⟨H, 1, none⟩ (.slice A10 n10 c10)).heap[wr.heap.size]? = wz.heap[wr.heap.size]?) := hide ⟨HP10.out.1.setCell (p := ⟨H, 1, none⟩) HS10.out.hH _, (Below.heap_setCell w10 ⟨H, 1, none⟩ _ wr.heap.size hHD).trans HP10.out.2⟩
                        clear hHD
                        go_wp2_with fail
                        refine hKK _ _ ⟨⟨_, HP11.out⟩, rfl⟩ (fun x => ∃ y : On9 wc.heap.size wr.heap.size wz, x = y.1) (fun _ h => h) ⟨⟨_, HP11.out⟩, rfl⟩ ?_
                        clear j1 f1 lh
                        refine wpQuiet_nil ?_
                        go_wp2
                        go_roundw
                        case rel => exact ⟨i + 1, _, hlt, by go_num, by rw [← HNM.out] at HS11; exact HS11, by rw [HX.out]; exact HK11⟩
                        case measure => simp [intOf]; omega
                      · intro KK hKK
                        rw [if_pos (by rfl)]
                        go_wp2_with fail
                        refine hKK _ _ ⟨⟨_, HP9.out⟩, rfl⟩ (fun x => ∃ y : On9 wc.heap.size wr.heap.size wz, x = y.1) (fun _ h => h) ⟨⟨_, HP9.out⟩, rfl⟩ ?_
                        refine wpQuiet_nil ?_
                        intro KK hKK
                        rw [if_pos (by rfl)]
                        go_wp2_with fail
                        refine hKK _ _ ⟨⟨_, HP9.out⟩, rfl⟩ (fun x => ∃ y : On9 wc.heap.size wr.heap.size wz, x = y.1) (fun _ h => h) ⟨⟨_, HP9.out⟩, rfl⟩ ?_
                        refine wpQuiet_nil ?_
                        intro KK hKK
                        rw [if_pos (by rfl)]
                        refine apN_wp (.tmp 94) (.tmp 101) _ rfl Tryz.underlying23 wc.heap.size _ _ rfl HS9.out.nn w8'.heap.size 1 _ rfl HY9.out (by have := HOL.out; have := HN40.out; unfold Gm.nmL; rw [List.length_map]; omega) HS9.out.w.size ?_
                        intro v2' w10 ho10 hg10
                        have HS10 := hide (HS9.out.putN ho10 hg10)
                        have HK10 : Hid (OwnI w10 (gA + 1) v' (Gm.kl G i ++ [(i : Int)])) := hide (World.ownsRow.kept HK9.out hg10 (other_row HK9.out HS9.out.nn (by decide)))
                        have HP10 : Hid (Below wc.heap.size wz w10 ∧ w10.heap[wr.heap.size]? = wz.heap[wr.heap.size]?) := hide ⟨HP9.out.1.grown hg10 HS9.out.w.size (fun k e => (own_holds HS9.out.nn e).1), (cells_row (HP9.out.2.trans HD10.out) HS9.out.nn (by decide) hg10).trans HD10.out.symm⟩
                        obtain ⟨A10, c10, rfl, _, _⟩ := own_form ho10
                        clear ho10 hg10
                        obtain ⟨n10, hn10⟩ : ∃ n, n = (Gm.nmL G (Gm.oR G i) ++ [nm]).length := ⟨_, rfl⟩
                        rw [← hn10] at HS10 ⊢
                        clear hn10
                        refine hKK _ _ ⟨⟨w10, HP10.out⟩, rfl⟩ (fun x => ∃ y : On9 wc.heap.size wr.heap.size wz, x = y.1) (fun _ h => h) ⟨⟨w10, HP10.out⟩, rfl⟩ ?_
                        go_frame
                        repeat (go_big_quiet_step (fail))
                        refine wpQuiet_nil ?_
                        intro KK hKK
                        rw [if_pos (by rfl)]
                        have j1 := cell_of_row w10 _ 1 _ _ _ HS10.out.h
                        have f1 := frozen_of_row w10 _ 1 _ _ HS10.out.h
                        have lh := (Array.getElem?_eq_some_iff.1 HS10.out.h).1
                        have HS11 := hide (HS10.out.setH 1 (.slice A10 n10 c10))
                        have HK11 : Hid (OwnI (w10.setCell ⟨H, 1, none⟩ (.slice A10 n10 c10)) (gA + 1) v' (Gm.kl G i ++ [(i : Int)])) := hide (World.ownsRow.kept HK10.out (only_set (World.grownBy.refl w10 (some H)) 1 _) (own_away HK10.out HS10.out.h (fun cur e => by injection e with _ e; cases e)))
                        have hHD : wr.heap.size ≠ H := fun e => by have h1 := HP10.out.2.trans HD10.out; rw [e, HS10.out.h] at h1; injection h1 with h1; injection h1 with _ h1; cases h1
                        have HP11 : Hid (Below wc.heap.size wz (w10.setCell ⟨H, 1, none⟩ (.slice A10 n10 c10)) ∧ (w10.setCell ⟨H, 1, none⟩ (.slice A10 n10 c10)).heap[wr.heap.size]? = wz.heap[wr.heap.size]?) := hide ⟨HP10.out.1.setCell (p := ⟨H, 1, none⟩) HS10.out.hH _, (Below.heap_setCell w10 ⟨H, 1, none⟩ _ wr.heap.size hHD).trans HP10.out.2⟩
                        clear hHD
                        go_wp2_with fail
                        refine hKK _ _ ⟨⟨_, HP11.out⟩, rfl⟩ (fun x => ∃ y : On9 wc.heap.size wr.heap.size wz, x = y.1) (fun _ h => h) ⟨⟨_, HP11.out⟩, rfl⟩ ?_
                        clear j1 f1 lh
                        refine wpQuiet_nil ?_
                        go_wp2
                        go_roundw
                        case rel => exact ⟨i + 1, _, hlt, by go_num, by rw [← HNM.out] at HS11; exact HS11, by rw [HX.out]; exact HK11⟩
                        case measure => simp [intOf]; omega
              · obtain rfl : i = G.rs.length := by omega
                rw [Gm.oR_all] at HS
                obtain ⟨AK, cK, hvk, _, _, _⟩ := HK.out.form
                subst hvk
                obtain ⟨ks, hks⟩ : ∃ ks, ks = Gm.kl G G.rs.length := ⟨_, rfl⟩
                rw [← hks] at HK ⊢
                have HKS := hide hks
                have HKL : Hid (ks.length = (Gm.krs G).length) := hide (by rw [hks]; exact Gm.kl_krs G)
                have hlenk : (ks.length : Int) ≤ 9223372036854775807 := by have := HKL.out; have := Gm.krs_len G; have := HR40.out; omega
                clear hks hlt
                have q2 : wr.cell? ⟨w.heap.size, 2, none⟩ = some (.slice AR G.rs.length cR) := by rw [cell_of_row wr _ 2 _ _ _ (HQC.out wr HS.out.w)]; rfl
                have lq := block_lt_of_cell q2
                go_wp2
                go_loopw [13] (fun vk wr => ∃ (k : Nat) (vR : Value), k ≤ ks.length ∧ vk = .int .i64 k ∧ Hid (RdS wc wr H gA #[vT, vN, vR, .int .i64 0] vT vN vR G.ts (Gm.nmL G (Gm.olds G)) (((Gm.krs G).take k).map (Gm.re (Gm.olds G))) (Gm.toL G.ns.length (Gm.olds G))) ∧ Hid (OwnI wr (gA + 1) (.slice AK ks.length cK) ks)) (fun vk _ => ks.length - (intOf vk).toNat)
                case atStart => exact ⟨0, _, Nat.zero_le _, rfl, HS, HK⟩
                case round =>
                  clear HS HK q2 lq
                  obtain ⟨k, vR, hk, rfl, HS, HK⟩ := hrel
                  obtain ⟨ws, hws⟩ : ∃ y : World, y = wr := ⟨_, rfl⟩
                  subst hws
                  have HW1 := hide (fun (y : World) (h : Below wc.heap.size wc y) => HBC.out.trans (h.mono HBC.out.size))
                  by_cases hlt : k < ks.length
                  · obtain ⟨gk, ok, rfl, hgk, hck⟩ := HK.out.rdOf (by omega)
                    have kk := hck k hlt
                    rw [L.gd_lt hlt] at kk
                    have lk := block_lt_of_cell kk
                    obtain ⟨i, hLi, hi, hkk, hkr⟩ := Gm.kl_at (G := G) (k := k) (by rw [← HKS.out]; exact hlt)
                    have hLi2 : ks[k] = (i : Int) := by simp only [HKS.out]; exact hLi
                    rw [hLi2] at kk
                    have HKN := hide (Gm.krs_next hkk)
                    have hxk : (Gm.krs G)[k] ∈ Gm.krs G := List.getElem_mem hkk
                    rw [hkr] at HKN hxk
                    have hxm : G.rs[i] ∈ G.rs := List.getElem_mem hi
                    have e := HFT.out.r _ hxm
                    have hxl := HOK.out.lin _ hxm
                    have HSN := hide (HOK.out.sin _ hxm)
                    have hr6 := (Gm.rule_in (HOK.out.rr _ hxm)).1
                    obtain ⟨g, o, rfl, hgB, hc⟩ := HRl.out w1 HB1.out (by omega)
                    obtain ⟨k0, ⟨A', c', k1, _, _, hri⟩, k2⟩ := hc i hi
                    have hgw : g < w1.heap.size := by have := HB.out; have := HS1.out; omega
                    have HRI := hide (fun (y : World) (h : Below wc.heap.size wc y) => hri.keep fun g o hg => (HW1.out y h).cell (p := ⟨g, o, none⟩) (by have := HB.out; have := HS1.out; simp only; omega))
                    have HRD : Hid (((Gm.krs G).take k).length ≤ 40) := hide (by rw [List.length_take]; have := Gm.krs_len G; have := HR40.out; omega)
                    have HIN := hide e.2.2
                    generalize G.rs[i] = x at *
                    obtain ⟨l, r, pz⟩ := x
                    simp only at k0 k1 k2 HRI HSN hr6 hxl HIN
                    obtain ⟨ml, rfl⟩ : ∃ m : Nat, l = (m : Int) := ⟨l.toNat, by omega⟩
                    have hmli := hxl.2
                    have hmln : ml < G.ns.length := by omega
                    have hrl : (r.length : Int) ≤ 9223372036854775807 := by omega
                    have hii : (i : Int) < (G.rs.length : Int) := by omega
                    have HRE : Hid (Gm.re (Gm.olds G) ⟨ml, r, pz⟩ = ⟨Gm.pos (Gm.olds G) ml, r.map (Gm.re1 (Gm.olds G)), pz⟩) := hide rfl
                    have HTO := hide (fun (i : Nat) (hi : i < G.ns.length) => Gm.toL_in HOK.out (Gm.olds G) (Gm.olds_le HOK.out) G.ns.length i hi)
                    go_upto_region 25 with fail
                    have HYW := hide (fun (y : World) (h : Below ws.heap.size ws y) => HS.out.w.trans (h.mono HS.out.w.size))
                    have b0 := fun y : Calm.On ws.heap.size ws => ((HW1.out y.1 (HYW.out y.1 y.2)).cell (p := ⟨g, o + i * 3, none⟩) hgw).trans k0
                    have b1 := fun y : Calm.On ws.heap.size ws => ((HW1.out y.1 (HYW.out y.1 y.2)).cell (p := ⟨g, o + i * 3 + 1, none⟩) hgw).trans k1
                    have b2 := fun y : Calm.On ws.heap.size ws => ((HW1.out y.1 (HYW.out y.1 y.2)).cell (p := ⟨g, o + i * 3 + 2, none⟩) hgw).trans k2
                    have bk := fun y : Calm.On ws.heap.size ws => (y.2.cell (p := ⟨gk, ok + k, none⟩) lk).trans kk
                    have bq := fun y : Calm.On ws.heap.size ws => (show y.1.cell? ⟨w.heap.size, 2, none⟩ = some (.slice (some ⟨g, o, none⟩) G.rs.length cR) by rw [cell_of_row y.1 _ 2 _ _ _ (HQC.out y.1 (HYW.out y.1 y.2))]; rfl)
                    have HD0 : Hid (Below ws.heap.size ws ws.drew) := hide (below_drewN (Below.refl _ _) 1)
                    clear kk hck hc hri hkk hkr hLi hLi2 hxk hxm e hxl k0 k1 k2
                    refine CalmN.region_tree (fun x => ∃ y : Calm.On ws.heap.size ws, x = y.1) (.one [0, 1, 2, 3, 4, 5, 6, 7] 8 (.one [] 9 (.fin []))) (by kernel_rfl) (by kernel_rfl) (fun _ _ d _ _ h => by cases d <;> exact h) ⟨⟨ws.drew, HD0.out⟩, rfl⟩ ?_
                    simp only [CalmN.wpT, CalmN.wpSt, CalmN.pickOps, List.getElem?_toArray, List.getElem?_cons_zero, List.getElem?_cons_succ]
                    repeat (go_big_quiet_step (fail))
                    refine wpQuiet_nil ?_
                    clear b0 b1 b2 bk bq
                    obtain ⟨wd, hwd⟩ : ∃ y, y = ws.drew := ⟨_, rfl⟩
                    have hzd : Hid (wd.heap.size = ws.heap.size) := hide (by rw [hwd]; rfl)
                    rw [← hwd] at HD0 ⊢
                    clear hwd
                    have ha0 := HD0.out.alloc HD0.out.size (.cells #[.int .i64 0, .slice none 0 0, .int .i64 0] 40)
                    intro KK hKK
                    rw [if_pos (by rfl)]
                    go_wp2_with fail
                    refine hKK _ _ ⟨⟨_, ha0⟩, rfl⟩ (fun x => ∃ y : Calm.On ws.heap.size ws, x = y.1) (fun _ h => h) ⟨⟨_, ha0⟩, rfl⟩ ?_
                    refine wpQuiet_nil ?_
                    have hx := heap_alloc_new wd (.cells #[.int .i64 0, .slice none 0 0, .int .i64 0] 40)
                    obtain ⟨D, hD⟩ : ∃ D, D = wd.heap.size := ⟨_, rfl⟩
                    have HDs : Hid (ws.heap.size ≤ D) := hide (by have := hzd.out; omega)
                    rw [← hD] at hx ⊢
                    obtain ⟨wa, hwa⟩ : ∃ y, y = wd.alloc (.cells #[.int .i64 0, .slice none 0 0, .int .i64 0] 40) := ⟨_, rfl⟩
                    rw [← hwa] at hx ha0 ⊢
                    clear hwa hKK hD hzd
                    have hs1' := heap_setCell_same wa D 0 _ _ (.int .i64 ml) hx
                    have hs2' := heap_setCell_same _ D 1 _ _ (.slice A' r.length c') hs1'
                    have hs3' := heap_setCell_same _ D 2 _ _ (.int .i64 pz) hs2'
                    have hb3' := ((ha0.setCell (p := ⟨D, 0, none⟩) HDs.out (.int .i64 ml)).setCell (p := ⟨D, 1, none⟩) HDs.out (.slice A' r.length c')).setCell (p := ⟨D, 2, none⟩) HDs.out (.int .i64 pz)
                    have d0 := cell_of_row wa _ 0 _ _ _ hx
                    have d1 := cell_of_row wa _ 1 _ _ _ hx
                    have d2 := cell_of_row wa _ 2 _ _ _ hx
                    have f0 := frozen_of_row wa _ 0 _ _ hx
                    have f1 := frozen_of_row wa _ 1 _ _ hx
                    have f2 := frozen_of_row wa _ 2 _ _ hx
                    have ld := (Array.getElem?_eq_some_iff.1 hx).1
                    clear hs1' hs2' ha0 hx
                    intro KK hKK
                    rw [if_pos (by rfl)]
                    go_wp2_with fail
                    obtain ⟨we, hwe⟩ : ∃ y, y = ((wa.setCell ⟨D, 0, none⟩ (.int .i64 ml)).setCell ⟨D, 1, none⟩ (.slice A' r.length c')).setCell ⟨D, 2, none⟩ (.int .i64 pz) := ⟨_, rfl⟩
                    rw [← hwe] at hs3' hb3' ⊢
                    refine hKK _ _ ⟨⟨we, hb3'⟩, rfl⟩ (fun x => ∃ y : Calm.On ws.heap.size ws, x = y.1) (fun _ h => h) ⟨⟨we, hb3'⟩, rfl⟩ ?_
                    have HD1 : Hid (we.heap[D]? = some (.cells #[.int .i64 ml, .slice A' r.length c', .int .i64 pz] 40 (0, 0))) := hide hs3'
                    have HBE := hide hb3'
                    clear d0 d1 d2 f0 f1 f2 ld hs3' hb3' hwe hKK HD0
                    refine wpQuiet_nil ?_
                    go_upto_region 26 with fail
                    have hDl := (Array.getElem?_eq_some_iff.1 HD1.out).1
                    have b0 := fun y : Calm.On we.heap.size we => (show y.1.cell? ⟨D, 0, none⟩ = some (.int .i64 ml) by rw [cell_of_row y.1 _ 0 _ _ _ (heap_keep y.2 HD1.out)]; rfl)
                    have b2 := fun y : Calm.On we.heap.size we => (show y.1.cell? ⟨D, 2, none⟩ = some (.int .i64 pz) by rw [cell_of_row y.1 _ 2 _ _ _ (heap_keep y.2 HD1.out)]; rfl)
                    obtain ⟨tl, htl⟩ : ∃ z, z = Gm.pos (Gm.olds G) (ml : Int) := ⟨_, rfl⟩
                    have kt := (HBE.out.cell (p := ⟨gA, ml, none⟩) HS.out.a.lt).trans (HS.out.a.cell ml (by rw [Gm.toL_len]; exact hmln))
                    rw [Gm.toL_at hmln, ← htl] at kt
                    rw [← htl] at HRE
                    clear htl
                    have bt := fun y : Calm.On we.heap.size we => (y.2.cell (p := ⟨gA, ml, none⟩) (block_lt_of_cell kt)).trans kt
                    have HD0 : Hid (Below we.heap.size we we.drew) := hide (below_drewN (Below.refl _ _) 1)
                    refine CalmN.region_tree (fun x => ∃ y : Calm.On we.heap.size we, x = y.1) (.one [0, 1, 2, 3, 4, 5, 6, 7] 8 (.one [] 9 (.fin []))) (by kernel_rfl) (by kernel_rfl) (fun _ _ d _ _ h => by cases d <;> exact h) ⟨⟨we.drew, HD0.out⟩, rfl⟩ ?_
                    simp only [CalmN.wpT, CalmN.wpSt, CalmN.pickOps, List.getElem?_toArray, List.getElem?_cons_zero, List.getElem?_cons_succ]
                    repeat (go_big_quiet_step (fail))
                    refine wpQuiet_nil ?_
                    clear b0 b2 bt kt
                    obtain ⟨wd2, hwd⟩ : ∃ y, y = we.drew := ⟨_, rfl⟩
                    have hzd : Hid (wd2.heap.size = we.heap.size) := hide (by rw [hwd]; rfl)
                    rw [← hwd] at HD0 ⊢
                    clear hwd
                    have ha0 := HD0.out.alloc HD0.out.size (.cells #[.int .i64 0, .slice none 0 0, .int .i64 0] 40)
                    intro KK hKK
                    rw [if_pos (by rfl)]
                    go_wp2_with fail
                    refine hKK _ _ ⟨⟨_, ha0⟩, rfl⟩ (fun x => ∃ y : Calm.On we.heap.size we, x = y.1) (fun _ h => h) ⟨⟨_, ha0⟩, rfl⟩ ?_
                    refine wpQuiet_nil ?_
                    have hx := heap_alloc_new wd2 (.cells #[.int .i64 0, .slice none 0 0, .int .i64 0] 40)
                    obtain ⟨E, hE⟩ : ∃ E, E = wd2.heap.size := ⟨_, rfl⟩
                    have HEs : Hid (we.heap.size ≤ E ∧ D < E) := hide (by have := hzd.out; omega)
                    rw [← hE] at hx ⊢
                    obtain ⟨wa2, hwa⟩ : ∃ y, y = wd2.alloc (.cells #[.int .i64 0, .slice none 0 0, .int .i64 0] 40) := ⟨_, rfl⟩
                    rw [← hwa] at hx ha0 ⊢
                    clear hwa hKK hE hzd
                    have hs1' := heap_setCell_same wa2 E 0 _ _ (.int .i64 tl) hx
                    have hs2' := heap_setCell_same _ E 1 _ _ (.slice none 0 0) hs1'
                    have hs3' := heap_setCell_same _ E 2 _ _ (.int .i64 pz) hs2'
                    have hb3' := ((ha0.setCell (p := ⟨E, 0, none⟩) HEs.out.1 (.int .i64 tl)).setCell (p := ⟨E, 1, none⟩) HEs.out.1 (.slice none 0 0)).setCell (p := ⟨E, 2, none⟩) HEs.out.1 (.int .i64 pz)
                    have d0 := cell_of_row wa2 _ 0 _ _ _ hx
                    have d1 := cell_of_row wa2 _ 1 _ _ _ hx
                    have d2 := cell_of_row wa2 _ 2 _ _ _ hx
                    have f0 := frozen_of_row wa2 _ 0 _ _ hx
                    have f1 := frozen_of_row wa2 _ 1 _ _ hx
                    have f2 := frozen_of_row wa2 _ 2 _ _ hx
                    have ld := (Array.getElem?_eq_some_iff.1 hx).1
                    clear hs1' hs2' ha0 hx
                    intro KK hKK
                    rw [if_pos (by rfl)]
                    go_wp2_with fail
                    obtain ⟨wf, hwf⟩ : ∃ y, y = ((wa2.setCell ⟨E, 0, none⟩ (.int .i64 tl)).setCell ⟨E, 1, none⟩ (.slice none 0 0)).setCell ⟨E, 2, none⟩ (.int .i64 pz) := ⟨_, rfl⟩
                    rw [← hwf] at hs3' hb3' ⊢
                    refine hKK _ _ ⟨⟨wf, hb3'⟩, rfl⟩ (fun x => ∃ y : Calm.On we.heap.size we, x = y.1) (fun _ h => h) ⟨⟨wf, hb3'⟩, rfl⟩ ?_
                    have HX0 : Hid (wf.heap[E]? = some (.cells #[.int .i64 tl, .slice none 0 0, .int .i64 pz] 40 (0, 0))) := hide hs3'
                    have HDf := hide (heap_keep hb3' HD1.out)
                    have HBF := hide (HBE.out.trans (hb3'.mono HBE.out.size))
                    have HEz : Hid (E < wf.heap.size) := hide (Array.getElem?_eq_some_iff.1 hs3').1
                    clear d0 d1 d2 f0 f1 f2 ld hs3' hb3' hwf hKK HD0 HD1 HBE hDl
                    refine wpQuiet_nil ?_
                    go_wp2
                    go_loopw [16] (fun vj wr => ∃ (j : Nat) (vx : Value), j ≤ r.length ∧ vj = .int .i64 j ∧ Hid (Below ws.heap.size ws wr) ∧ Hid (wr.heap[D]? = some (.cells #[.int .i64 ml, .slice A' r.length c', .int .i64 pz] 40 (0, 0))) ∧ Hid (wr.heap[E]? = some (.cells #[.int .i64 tl, vx, .int .i64 pz] 40 (0, 0))) ∧ Hid (OwnI wr (E + 1) vx ((r.take j).map (Gm.re1 (Gm.olds G))))) (fun vj _ => r.length - (intOf vj).toNat)
                    case atStart => exact ⟨0, _, Nat.zero_le _, rfl, HBF, HDf, HX0, hide (OwnI.nil _ _)⟩
                    case round =>
                      clear HBF HDf HX0 HEz
                      obtain ⟨j, vx, hj, rfl, HBr, HDr, HEr, HOr⟩ := hrel
                      obtain ⟨Ax, cx, hvx, _, _, _⟩ := HOr.out.form
                      subst hvx
                      have d1 : wr.cell? ⟨D, 1, none⟩ = some (.slice A' r.length c') := by rw [cell_of_row wr _ 1 _ _ _ HDr.out]; rfl
                      have ld := block_lt_of_cell d1
                      have hEl := (Array.getElem?_eq_some_iff.1 HEr.out).1
                      by_cases hlt2 : j < r.length
                      · obtain ⟨g5, o5, rfl, hg5, hc5⟩ := HRI.out wr (HYW.out wr HBr.out) (by omega)
                        have k5 := hc5 j hlt2
                        rw [L.gd_lt hlt2] at k5
                        have l5 := block_lt_of_cell k5
                        have hz0 := HSN.out _ (List.getElem_mem hlt2)
                        have hiz := HIN.out _ (List.getElem_mem hlt2)
                        have HT : Hid ((r.take (j + 1)).map (Gm.re1 (Gm.olds G)) = (r.take j).map (Gm.re1 (Gm.olds G)) ++ [Gm.re1 (Gm.olds G) r[j]]) := hide (by rw [List.take_succ_eq_append_getElem hlt2, List.map_append, List.map_singleton])
                        have HLx : Hid (((r.take j).map (Gm.re1 (Gm.olds G))).length ≤ 1000) := hide (by rw [List.length_map, List.length_take]; omega)
                        have HST := hide (fun u => HBr.out.setCell (p := ⟨E, 1, none⟩) (by have := HEs.out; have := HDs.out; simp only; omega) u)
                        have hED : D ≠ E := by have := HEs.out; omega
                        have HBG : Hid (∀ k, E + 1 ≤ k → ws.heap.size ≤ k) := hide (fun k h => by have := HEs.out.2; have := HDs.out; omega)
                        unfold Gm.In at hiz
                        generalize r[j] = z at *
                        obtain ⟨lx, hlx⟩ : ∃ n, n = ((r.take j).map (Gm.re1 (Gm.olds G))).length := ⟨_, rfl⟩
                        rw [← hlx] at HEr HOr
                        have HLX := hide hlx
                        have e1 : wr.cell? ⟨E, 1, none⟩ = some (.slice Ax lx cx) := by rw [cell_of_row wr _ 1 _ _ _ HEr.out]; rfl
                        clear hc5 hlx
                        by_cases hz : z < 0
                        · obtain ⟨q, hq⟩ : ∃ q : Nat, -1 - z = (q : Int) := ⟨(-1 - z).toNat, by omega⟩
                          have hqn := hz0 hz
                          rw [hq] at hqn
                          have hqq := HTO.out q (by omega)
                          have kt := (HBr.out.cell (p := ⟨gA, q, none⟩) HS.out.a.lt).trans (HS.out.a.cell q (by rw [Gm.toL_len]; omega))
                          have lt5 := block_lt_of_cell kt
                          have HEQ : Hid (Gm.re1 (Gm.olds G) z = -1 - (Gm.toL G.ns.length (Gm.olds G)).getD q 0) := hide (by unfold Gm.re1; rw [if_pos hz, hq, Gm.toL_at (by omega)])
                          generalize (Gm.toL G.ns.length (Gm.olds G)).getD q 0 = tq at *
                          have hw1' : IntKind.i64.wrap (-1 - z) = (q : Int) := by rw [IntWalk.i64_in _ (by omega)]; exact hq
                          have hzd : decide (z < 0) = true := decide_eq_true hz
                          obtain ⟨u, hu⟩ : ∃ u, u = -1 - tq := ⟨_, rfl⟩
                          have hw2' : IntKind.i64.wrap (-1 - tq) = u := by rw [hu]; exact IntWalk.i64_in _ (by omega)
                          rw [← hu] at HEQ
                          rw [HEQ.out] at HT
                          clear hz hq hiz hz0 hqq hu HEQ
                          have HAB : Hid (∀ y : World, (wr.alloc (.cells #[.int .i64 u] 3)).grownBy y (Value.slice Ax lx cx).ownBlock → y.heap[D]? = some (.cells #[.int .i64 ml, .slice (some ⟨g5, o5, none⟩) r.length c', .int .i64 pz] 40 (0, 0)) ∧ y.heap[E]? = some (.cells #[.int .i64 tl, .slice Ax lx cx, .int .i64 pz] 40 (0, 0)) ∧ Below ws.heap.size ws y) := hide (by
                            have hOb : OwnI (wr.alloc (.cells #[.int .i64 u] 3)) (E + 1) (.slice Ax lx cx) ((r.take j).map (Gm.re1 (Gm.olds G))) := HOr.out.alloc _
                            have hDb : (wr.alloc (.cells #[.int .i64 u] 3)).heap[D]? = some (.cells #[.int .i64 ml, .slice (some ⟨g5, o5, none⟩) r.length c', .int .i64 pz] 40 (0, 0)) := (Below.heap_alloc wr _ D (Array.getElem?_eq_some_iff.1 HDr.out).1).trans HDr.out
                            have hEb : (wr.alloc (.cells #[.int .i64 u] 3)).heap[E]? = some (.cells #[.int .i64 tl, .slice Ax lx cx, .int .i64 pz] 40 (0, 0)) := (Below.heap_alloc wr _ E (Array.getElem?_eq_some_iff.1 HEr.out).1).trans HEr.out
                            have hBb : Below ws.heap.size ws (wr.alloc (.cells #[.int .i64 u] 3)) := HBr.out.alloc HBr.out.size _
                            intro y h
                            have hlt' := World.ownsRow.lt hOb
                            exact ⟨cells_row hDb hOb (by decide) h, cells_row hEb hOb (by decide) h, hBb.grown h hBb.size (fun k e => HBG.out k (hlt' k e).1)⟩)
                          have HOA : Hid (OwnI (wr.alloc (.cells #[.int .i64 u] 3)) (E + 1) (.slice Ax lx cx) ((r.take j).map (Gm.re1 (Gm.olds G)))) := hide (HOr.out.alloc _)
                          have HEA : Hid (E + 1 ≤ (wr.alloc (.cells #[.int .i64 u] 3)).heap.size) := hide (by simp; omega)
                          have HEC : Hid (ws.heap.size ≤ E) := hide (by have := HEs.out; have := HDs.out; omega)
                          have HEE : Hid (E < E + 1) := hide (Nat.lt_succ_self E)
                          have HLA : Hid (((r.take j).map (Gm.re1 (Gm.olds G))).length ≤ 1000000000000) := hide (by have := HLx.out; omega)
                          go_wp2_with (at_builtin; (go_loud (refine apI_arm rfl (.tmp 147) (.tmp 149) _ rfl Tryz.underlying33 (E + 1) _ _ rfl HOA.out _ 1 u rfl (World.cell?_alloc_new _ _ _ 0) HLA.out HEA.out ?_)); intro v6 w6 ho6 hg6; rw [← HT.out] at ho6; obtain ⟨hDx, hEx, hBx⟩ := HAB.out w6 hg6; have HDx := hide hDx; have HEx := hide hEx; have HBx := hide hBx; have HO6 := hide ho6; obtain ⟨A6, c6, hv6, _, _, _⟩ := ho6.form; subst hv6; obtain ⟨n6, hn6⟩ : ∃ n, n = ((r.take (j + 1)).map (Gm.re1 (Gm.olds G))).length := ⟨_, rfl⟩; rw [← hn6] at HO6 ⊢; have e1' : w6.cell? ⟨E, 1, none⟩ = some (.slice Ax lx cx) := (cell_of_row w6 _ 1 _ _ _ HEx.out).trans rfl; have f1' := frozen_of_row w6 _ 1 _ _ HEx.out; have l1' := (Array.getElem?_eq_some_iff.1 HEx.out).1; have HB7 := hide (HBx.out.setCell (p := ⟨E, 1, none⟩) HEC.out (.slice A6 n6 c6)); have HD7 := hide ((Below.heap_setCell w6 ⟨E, 1, none⟩ (.slice A6 n6 c6) D hED).trans HDx.out); have HE7 := hide (heap_setCell_same w6 E 1 _ _ (.slice A6 n6 c6) HEx.out); have HO7 : Hid (OwnI (w6.setCell ⟨E, 1, none⟩ (.slice A6 n6 c6)) (E + 1) (.slice A6 n6 c6) ((r.take (j + 1)).map (Gm.re1 (Gm.olds G)))) := hide (HO6.out.far (only_set (World.grownBy.refl w6 (some E)) 1 _) HEE.out); clear ho6 hg6 hn6 hDx hEx hBx)
                          go_roundw
                          case rel => exact ⟨j + 1, _, hlt2, by go_num, HB7, HD7, HE7, HO7⟩
                          case measure => simp [intOf]; omega
                        · have HEQ : Hid (Gm.re1 (Gm.olds G) z = z) := hide (by unfold Gm.re1; rw [if_neg hz])
                          have hzd : decide (z < 0) = false := decide_eq_false hz
                          obtain ⟨u, hu⟩ : ∃ u, u = z := ⟨_, rfl⟩
                          rw [← hu] at HEQ k5 hzd
                          rw [← hu, HEQ.out] at HT
                          clear hz hiz hz0 hu HEQ
                          have HAB : Hid (∀ y : World, (wr.alloc (.cells #[.int .i64 u] 3)).grownBy y (Value.slice Ax lx cx).ownBlock → y.heap[D]? = some (.cells #[.int .i64 ml, .slice (some ⟨g5, o5, none⟩) r.length c', .int .i64 pz] 40 (0, 0)) ∧ y.heap[E]? = some (.cells #[.int .i64 tl, .slice Ax lx cx, .int .i64 pz] 40 (0, 0)) ∧ Below ws.heap.size ws y) := hide (by
                            have hOb : OwnI (wr.alloc (.cells #[.int .i64 u] 3)) (E + 1) (.slice Ax lx cx) ((r.take j).map (Gm.re1 (Gm.olds G))) := HOr.out.alloc _
                            have hDb : (wr.alloc (.cells #[.int .i64 u] 3)).heap[D]? = some (.cells #[.int .i64 ml, .slice (some ⟨g5, o5, none⟩) r.length c', .int .i64 pz] 40 (0, 0)) := (Below.heap_alloc wr _ D (Array.getElem?_eq_some_iff.1 HDr.out).1).trans HDr.out
                            have hEb : (wr.alloc (.cells #[.int .i64 u] 3)).heap[E]? = some (.cells #[.int .i64 tl, .slice Ax lx cx, .int .i64 pz] 40 (0, 0)) := (Below.heap_alloc wr _ E (Array.getElem?_eq_some_iff.1 HEr.out).1).trans HEr.out
                            have hBb : Below ws.heap.size ws (wr.alloc (.cells #[.int .i64 u] 3)) := HBr.out.alloc HBr.out.size _
                            intro y h
                            have hlt' := World.ownsRow.lt hOb
                            exact ⟨cells_row hDb hOb (by decide) h, cells_row hEb hOb (by decide) h, hBb.grown h hBb.size (fun k e => HBG.out k (hlt' k e).1)⟩)
                          have HOA : Hid (OwnI (wr.alloc (.cells #[.int .i64 u] 3)) (E + 1) (.slice Ax lx cx) ((r.take j).map (Gm.re1 (Gm.olds G)))) := hide (HOr.out.alloc _)
                          have HEA : Hid (E + 1 ≤ (wr.alloc (.cells #[.int .i64 u] 3)).heap.size) := hide (by simp; omega)
                          have HEC : Hid (ws.heap.size ≤ E) := hide (by have := HEs.out; have := HDs.out; omega)
                          have HEE : Hid (E < E + 1) := hide (Nat.lt_succ_self E)
                          have HLA : Hid (((r.take j).map (Gm.re1 (Gm.olds G))).length ≤ 1000000000000) := hide (by have := HLx.out; omega)
                          go_wp2_with (at_builtin; (go_loud (refine apI_arm rfl (.tmp 147) (.tmp 149) _ rfl Tryz.underlying33 (E + 1) _ _ rfl HOA.out _ 1 u rfl (World.cell?_alloc_new _ _ _ 0) HLA.out HEA.out ?_)); intro v6 w6 ho6 hg6; rw [← HT.out] at ho6; obtain ⟨hDx, hEx, hBx⟩ := HAB.out w6 hg6; have HDx := hide hDx; have HEx := hide hEx; have HBx := hide hBx; have HO6 := hide ho6; obtain ⟨A6, c6, hv6, _, _, _⟩ := ho6.form; subst hv6; obtain ⟨n6, hn6⟩ : ∃ n, n = ((r.take (j + 1)).map (Gm.re1 (Gm.olds G))).length := ⟨_, rfl⟩; rw [← hn6] at HO6 ⊢; have e1' : w6.cell? ⟨E, 1, none⟩ = some (.slice Ax lx cx) := (cell_of_row w6 _ 1 _ _ _ HEx.out).trans rfl; have f1' := frozen_of_row w6 _ 1 _ _ HEx.out; have l1' := (Array.getElem?_eq_some_iff.1 HEx.out).1; have HB7 := hide (HBx.out.setCell (p := ⟨E, 1, none⟩) HEC.out (.slice A6 n6 c6)); have HD7 := hide ((Below.heap_setCell w6 ⟨E, 1, none⟩ (.slice A6 n6 c6) D hED).trans HDx.out); have HE7 := hide (heap_setCell_same w6 E 1 _ _ (.slice A6 n6 c6) HEx.out); have HO7 : Hid (OwnI (w6.setCell ⟨E, 1, none⟩ (.slice A6 n6 c6)) (E + 1) (.slice A6 n6 c6) ((r.take (j + 1)).map (Gm.re1 (Gm.olds G)))) := hide (HO6.out.far (only_set (World.grownBy.refl w6 (some E)) 1 _) HEE.out); clear ho6 hg6 hn6 hDx hEx hBx)
                          go_roundw
                          case rel => exact ⟨j + 1, _, hlt2, by go_num, HB7, HD7, HE7, HO7⟩
                          case measure => simp [intOf]; omega
                      · obtain rfl : j = r.length := by omega
                        rw [List.take_length] at HOr HEr
                        have HSr := hide (HS.out.below HBr.out)
                        have HKr := hide (HK.out.below HBr.out (Nat.le_refl _))
                        have hvR := ownrl_form HSr.out.r
                        obtain ⟨AR5, cR5, rfl, _, _⟩ := hvR
                        obtain ⟨lR, hlR⟩ : ∃ n, n = (((Gm.krs G).take k).map (Gm.re (Gm.olds G))).length := ⟨_, rfl⟩
                        obtain ⟨lx, hlx⟩ : ∃ n, n = (r.map (Gm.re1 (Gm.olds G))).length := ⟨_, rfl⟩
                        rw [← hlR] at HSr
                        rw [← hlx] at HEr HOr
                        have HLX := hide hlx
                        have j2 : wr.cell? ⟨H, 2, none⟩ = some (.slice AR5 lR cR5) := by rw [cell_of_row wr _ 2 _ _ _ HSr.out.h]; rfl
                        have lh := block_lt_of_cell j2
                        have e0 : wr.cell? ⟨E, 0, none⟩ = some (.int .i64 tl) := by rw [cell_of_row wr _ 0 _ _ _ HEr.out]; rfl
                        have e1 : wr.cell? ⟨E, 1, none⟩ = some (.slice Ax lx cx) := by rw [cell_of_row wr _ 1 _ _ _ HEr.out]; rfl
                        have e2 : wr.cell? ⟨E, 2, none⟩ = some (.int .i64 pz) := by rw [cell_of_row wr _ 2 _ _ _ HEr.out]; rfl
                        obtain ⟨Ay, cy, hy, ry1, ry2, hrow⟩ := HOr.out.row (B := wc.heap.size) (by have := HEs.out; have := HDs.out; have := HS.out.w.size; omega)
                        injection hy with hy1 hy2 hy3
                        subst hy1 hy3
                        have HSa := hide (HSr.out.alloc (.cells #[.int .i64 tl, .slice Ax lx cx, .int .i64 pz] 40))
                        have HKa := hide (HKr.out.alloc (.cells #[.int .i64 tl, .slice Ax lx cx, .int .i64 pz] 40))
                        have HROW := hide ((hrow.grown (World.grownBy_alloc wr (.cells #[.int .i64 tl, .slice Ax lx cx, .int .i64 pz] 40) none) (fun g e => by cases e)).more (show wr.heap.size ≤ (wr.alloc (.cells #[.int .i64 tl, .slice Ax lx cx, .int .i64 pz] 40)).heap.size by simp))
                        have HNC : Hid (∀ j u, (rlC (⟨tl, r.map (Gm.re1 (Gm.olds G)), pz⟩, Ax, cx))[j]? = some u → (wr.alloc (.cells #[.int .i64 tl, .slice Ax lx cx, .int .i64 pz] 40)).cell? ⟨wr.heap.size, j, none⟩ = some u) := hide (fun j u hj => by
                          have h := new_cells wr [.int .i64 tl, .slice Ax lx cx, .int .i64 pz] 40 j
                          rw [HLX.out] at h ⊢
                          exact h.trans hj)
                        have HR12 := hide (And.intro ry1 ry2)
                        have HRL5 : Hid ((((Gm.krs G).take k).map (Gm.re (Gm.olds G))).length ≤ 1000000) := hide (by rw [List.length_map]; have := HRD.out; omega)
                        clear hlR hlx hy2 ry1 ry2 hrow
                        go_wp2_with (at_builtin; (go_loud (refine apRl_arm rfl (.tmp 153) (.tmp 155) _ rfl Tryz.underlying24 wc.heap.size _ (.slice AR5 lR cR5) _ rfl HSa.out.r _ _ (⟨tl, r.map (Gm.re1 (Gm.olds G)), pz⟩, Ax, cx) rfl HNC.out ⟨HR12.out.1, HR12.out.2, HROW.out⟩ HRL5.out HSa.out.w.size (Nat.le_refl _) ?_)); intro v5 w5 ho5 hg5; rw [← HRE.out, ← HKN.out] at ho5; have HS5 := hide (HSa.out.putR ho5 hg5); have HK5 : Hid (OwnI w5 (gA + 1) (.slice (some ⟨gk, ok, none⟩) ks.length cK) ks) := hide (by obtain ⟨qs, _, h2, _⟩ := id HSa.out.r; exact World.ownsRow.kept HKa.out hg5 (other_row HKa.out h2 (by decide))); obtain ⟨A6, c6, rfl, _, _⟩ := ownrl_form ho5; obtain ⟨n6, hn6⟩ : ∃ n, n = (((Gm.krs G).take (k + 1)).map (Gm.re (Gm.olds G))).length := ⟨_, rfl⟩; rw [← hn6] at HS5 ⊢; have j2' := cell_of_row w5 _ 2 _ _ _ HS5.out.h; have f2' := frozen_of_row w5 _ 2 _ _ HS5.out.h; have lh' := (Array.getElem?_eq_some_iff.1 HS5.out.h).1; have HS6 := hide (HS5.out.setH 2 (.slice A6 n6 c6)); have HK6 : Hid (OwnI (w5.setCell ⟨H, 2, none⟩ (.slice A6 n6 c6)) (gA + 1) (.slice (some ⟨gk, ok, none⟩) ks.length cK) ks) := hide (World.ownsRow.kept HK5.out (only_set (World.grownBy.refl w5 (some H)) 2 _) (own_away HK5.out HS5.out.h (fun cur e => by injection e with _ e; cases e))); clear ho5 hg5 hn6)
                        go_roundw
                        case rel => exact ⟨k + 1, _, hlt, by go_num, HS6, HK6⟩
                        case measure => simp [intOf]; omega
                  · obtain rfl : k = ks.length := by omega
                    rw [HKL.out, List.take_length] at HS
                    obtain ⟨AT5, cT5, rfl, _, _⟩ := own_form HS.out.t
                    obtain ⟨AN5, cN5, rfl, _, _⟩ := own_form HS.out.nn
                    obtain ⟨AR5, cR5, rfl, _, _⟩ := ownrl_form HS.out.r
                    have HP : Hid ((Gm.toL G.ns.length (Gm.olds G)).getD m 0 = Gm.pos (Gm.olds G) G.st) := hide (by rw [Gm.toL_at hmn, ← HM.out])
                    have q3 : ws.cell? ⟨w.heap.size, 3, none⟩ = some (.int .i64 m) := by rw [cell_of_row ws _ 3 _ _ _ (HQC.out ws HS.out.w), ← HM.out]; rfl
                    have km := HS.out.a.cell m (by rw [Gm.toL_len]; exact hmn)
                    rw [HP.out] at km
                    have la := HS.out.a.lt
                    have lq := block_lt_of_cell q3
                    have j3 := cell_of_row ws _ 3 _ _ _ HS.out.h
                    have f3 := frozen_of_row ws _ 3 _ _ HS.out.h
                    have lh := (Array.getElem?_eq_some_iff.1 HS.out.h).1
                    obtain ⟨pp, hpp⟩ : ∃ z, z = Gm.pos (Gm.olds G) G.st := ⟨_, rfl⟩
                    rw [← hpp] at km
                    have HPP := hide hpp
                    have HSF := hide (HS.out.setH 3 (.int .i64 pp))
                    have HKF : Hid (OwnI (ws.setCell ⟨H, 3, none⟩ (.int .i64 pp)) (gA + 1) (.slice AK ks.length cK) ks) := hide (World.ownsRow.kept HK.out (only_set (World.grownBy.refl ws (some H)) 3 _) (own_away HK.out HS.out.h (fun cur e => by injection e with _ e; cases e)))
                    obtain ⟨wy, hwy⟩ : ∃ y, y = ws.setCell ⟨H, 3, none⟩ (.int .i64 pp) := ⟨_, rfl⟩
                    rw [← hwy] at HSF HKF
                    clear hpp HP
                    go_upto_region 36 with fail
                    rw [← hwy]
                    clear hwy q3 km la lq j3 f3 lh
                    have j0 : wy.cell? ⟨H, 0, none⟩ = some (.slice AT5 G.ts.length cT5) := by rw [cell_of_row wy _ 0 _ _ _ HSF.out.h]; rfl
                    have j1 : wy.cell? ⟨H, 1, none⟩ = some (.slice AN5 (Gm.nmL G (Gm.olds G)).length cN5) := by rw [cell_of_row wy _ 1 _ _ _ HSF.out.h]; rfl
                    have j2 : wy.cell? ⟨H, 2, none⟩ = some (.slice AR5 ((Gm.krs G).map (Gm.re (Gm.olds G))).length cR5) := by rw [cell_of_row wy _ 2 _ _ _ HSF.out.h]; rfl
                    have j3 : wy.cell? ⟨H, 3, none⟩ = some (.int .i64 pp) := by rw [cell_of_row wy _ 3 _ _ _ HSF.out.h]; rfl
                    have lh := (Array.getElem?_eq_some_iff.1 HSF.out.h).1
                    have hby := HBC.out.trans (HSF.out.w.mono HBC.out.size)
                    have g0 : wy.cell? ⟨w.heap.size + 1, 0, none⟩ = some (.slice none 0 0) := by rw [cell_of_row wy _ 0 _ _ _ (HZ.out wy hby)]; rfl
                    have g1 : wy.cell? ⟨w.heap.size + 1, 1, none⟩ = some (.slice none 0 0) := by rw [cell_of_row wy _ 1 _ _ _ (HZ.out wy hby)]; rfl
                    have g2 : wy.cell? ⟨w.heap.size + 1, 2, none⟩ = some (.slice none 0 0) := by rw [cell_of_row wy _ 2 _ _ _ (HZ.out wy hby)]; rfl
                    have g3 : wy.cell? ⟨w.heap.size + 1, 3, none⟩ = some (.int .i64 0) := by rw [cell_of_row wy _ 3 _ _ _ (HZ.out wy hby)]; rfl
                    have e0 := frozen_of_row wy _ 0 _ _ (HZ.out wy hby)
                    have e1 := frozen_of_row wy _ 1 _ _ (HZ.out wy hby)
                    have e2 := frozen_of_row wy _ 2 _ _ (HZ.out wy hby)
                    have e3 := frozen_of_row wy _ 3 _ _ (HZ.out wy hby)
                    have lz := (Array.getElem?_eq_some_iff.1 (HZ.out wy hby)).1
                    have HBF := hide (fun u1 u2 u3 u4 => ((((HBX.out wy hby).setCell (p := ⟨w.heap.size + 1, 0, none⟩) (by simp only; omega) u1).setCell (p := ⟨w.heap.size + 1, 1, none⟩) (by simp only; omega) u2).setCell (p := ⟨w.heap.size + 1, 2, none⟩) (by simp only; omega) u3).setCell (p := ⟨w.heap.size + 1, 3, none⟩) (by simp only; omega) u4)
                    have hgf := only_set (only_set (only_set (only_set (World.grownBy.refl wy (some (w.heap.size + 1))) 0 (.slice AT5 G.ts.length cT5)) 1 (.slice AN5 (Gm.nmL G (Gm.olds G)).length cN5)) 2 (.slice AR5 ((Gm.krs G).map (Gm.re (Gm.olds G))).length cR5)) 3 (.int .i64 pp)
                    have hwc : w.heap.size + 1 < wc.heap.size := by have := HBC.out.size; have := HS1.out; omega
                    have hRG : Gm.reduce G = ⟨G.ts, Gm.nmL G (Gm.olds G), (Gm.krs G).map (Gm.re (Gm.olds G)), pp⟩ := by rw [HPP.out]; rfl
                    have HGR := hide ((show OwnGr wy wc.heap.size (.agg #[.slice AT5 G.ts.length cT5, .slice AN5 (Gm.nmL G (Gm.olds G)).length cN5, .slice AR5 ((Gm.krs G).map (Gm.re (Gm.olds G))).length cR5, .int .i64 pp]) (Gm.reduce G) from by rw [hRG]; exact ⟨_, _, _, rfl, HSF.out.t, HSF.out.nn, HSF.out.r⟩).grown hgf (fun g e => by injection e with e; omega))
                    have HRF := hide (HKF.out.far hgf (by have := HSF.out.hA; omega))
                    generalize Gm.nmL G (Gm.olds G) = nms at *
                    generalize (Gm.krs G).map (Gm.re (Gm.olds G)) = rls at *
                    clear hgf hRG hwc hby HS HSF HK HKF
                    go_wp2
                    refine bodyPost_ret (v := .tuple #[.agg #[.slice AT5 G.ts.length cT5, .slice AN5 nms.length cN5, .slice AR5 rls.length cR5, .int .i64 pp], .slice AK ks.length cK, .int .i64 0]) (by simp [results, Tryz.results20, go_sem, g0, g1, g2, g3]) rfl ?_
                    exact RedAns.ok HE.out HKS.out HGR.out.rd HRF.out.rdOf (HBF.out _ _ _ _)

set_option maxHeartbeats 4000000 in
theorem rIs_any (v : Value) (G : Gm.Gr) (B : Nat) (w : World) (hg : RdGr w B v G) (hf : Gm.Fit G) (hB : B ≤ w.heap.size) :
    Calls Tryz.prog 17 #[v] w fun e w' => e = .returned (.bool (Gm.isB G)) ∧ Below w.heap.size w w' := by
  have H1 := hide (fun (x : World) (h : Below w.heap.size w x) => rReduce_any v G B x (hg.below h hB) hf (Nat.le_trans hB h.size))
  have H2 := hide (fun (x : World) (h : Below w.heap.size w x) (u : Value) (B' : Nat) (hu : RdGr x B' u (Gm.rdG G)) (hB' : B' ≤ x.heap.size) => rsame_any v u G (Gm.rdG G) B B' x (hg.below h hB) hu hf (Gm.rdG_fit hf) (Nat.le_trans hB h.size) hB')
  have hin := Gm.rdE_in G
  have HI : Hid (Gm.isB G = (decide (Gm.rdE G = 0) && Gm.same G (Gm.rdG G))) := hide rfl
  obtain ⟨AT, cT, AN, cN, AR, cR, rfl, _⟩ := hg
  have HS0 := hide (One.start w #[.slice AT G.ts.length cT, .slice AN G.ns.length cN, .slice AR G.rs.length cR, .int .i64 G.st])
  unfold RedAns at H1
  generalize Gm.rdL G = L at *
  generalize Gm.rdE G = er at *
  generalize Gm.rdG G = RG at *
  clear hf
  by_cases he : er = 0
  · have HX : Hid (Gm.isB G = Gm.same G RG) := hide (by rw [HI.out, decide_eq_true he]; rfl)
    subst he
    clear hin HI
    go_enter Tryz.func17, Tryz.ntmps17
    go_wp2_with fail
    refine (H1.out _ HS0.out.below).mono ?_; rintro _ w2 ⟨g, A, c, rfl, hg2, hr2, hb2⟩
    have HB2 := hide (HS0.out.on hb2)
    have HG2 := hide hg2
    obtain ⟨A0, d0, A1, d1, A2, d2, rfl, _⟩ := hg2
    have HT0 := hide (One.start w2 #[.slice A0 RG.ts.length d0, .slice A1 RG.ns.length d1, .slice A2 RG.rs.length d2, .int .i64 RG.st])
    have HB3 := hide (HB2.out.on HT0.out.below)
    have x0 := HB3.out.c 0 _ rfl
    have x1 := HB3.out.c 1 _ rfl
    have x2 := HB3.out.c 2 _ rfl
    have x3 := HB3.out.c 3 _ rfl
    have hz2 : w.heap.size < w2.heap.size := HB2.out.size
    clear hr2 hb2
    go_wp2_with fail
    refine (H2.out _ HB3.out.below _ w2.heap.size (HG2.out.below HT0.out.below (Nat.le_refl _)) HT0.out.below.size).mono ?_; rintro _ w4 ⟨rfl, hb4⟩
    have HB4 := hide (HB3.out.on hb4)
    clear hb4 x0 x1 x2 x3
    go_wp2
    go_ret
    exact ⟨by rw [HX.out]; rfl, HB4.out.below⟩
  · have HX : Hid (Gm.isB G = false) := hide (by rw [HI.out, decide_eq_false he]; rfl)
    have he2 : (er == 0) = false := by simpa using he
    clear HI H2
    go_enter Tryz.func17, Tryz.ntmps17
    go_wp2_with fail
    refine (H1.out _ HS0.out.below).mono ?_; rintro _ w2 ⟨g, A, c, rfl, hg2, hr2, hb2⟩
    have HB2 := hide (HS0.out.on hb2)
    obtain ⟨A0, d0, A1, d1, A2, d2, rfl, _⟩ := hg2
    clear hr2 hb2
    go_wp2
    go_ret
    exact ⟨by rw [HX.out]; rfl, (HB2.out.alloc _).below⟩
end Go.Proofs.YtfiijndmlmddbaaGreat
