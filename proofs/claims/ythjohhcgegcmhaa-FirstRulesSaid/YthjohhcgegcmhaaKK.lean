/- Part of the proofs over this program: Alive12, FirstQ, WalkRules12, GramOpen, RowKit. -/
import Derived.Deep.Slices
import Derived.Deep.Fields
import Derived.ChangeSame
import Derived.Lib.SmallJoins
import Derived.SliceStrings
import Derived.Test.YthjohhcgegcmhaaRows
import Derived.SizedLaws
import Derived.LaidMore
import Derived.Stop.Joined
import Derived.ShutString
import Derived.ChangeOld
import Derived.Test.YthjohhcgegcmhaaKJ
namespace Go.Proofs.Ythjohhcgegcmhaa
set_option maxRecDepth 100000
open Go.RowKit

theorem sets_same (A A' : Option Addr) (ca cb n : Nat) (s : List Nat) (w : World) (hra : RdZ w w.heap.size A s) (hrb : RdZ w w.heap.size A' s) (hxl : s.length ≤ 9223372036854775807) (hn : n = s.length) :
    Calls Try.prog 10 #[.slice A n ca, .slice A' n cb] w fun e w' => e = .returned (.bool true) ∧ ∃ n, w' = w.drewN n := by
  have h := sets_any A A' ca cb (zi s) (zi s) w hra hrb (by rw [zi_len]; exact hxl) (by rw [zi_len]; exact hxl)
  rw [zi_len] at h
  subst hn
  exact h.mono fun e w' h => ⟨by rw [h.1, decide_eq_true rfl], h.2⟩
theorem litZ (w : World) (s : List Nat) : RdZ (w.alloc (cellsU (zi s))) (w.alloc (cellsU (zi s))).heap.size (some ⟨w.heap.size, 0, none⟩) s := (litU1 w (zi s)).1
def gr012 : Gm.Gr := ⟨[], [], [], 0⟩
theorem gr012_rd (w : World) (B : Nat) : RdGr w B (.agg #[.slice none 0 0, .slice none 0 0, .slice none 0 0, .int .i64 0]) gr012 := ⟨none, 0, none, 0, none, 0, rfl, by simp [gr012], by simp [gr012], by simp [gr012], fun h => absurd rfl h, fun h => absurd rfl h, fun h => absurd rfl h⟩
theorem gr012_fit : Gm.Fit gr012 := ⟨by simp [gr012], by simp [gr012], by simp [gr012], by unfold Gm.In; simp [gr012]⟩
theorem build_gr12 (w : World) : (Instr.build 26 #[]).run Try.prog w = .ok (.agg #[.slice none 0 0, .slice none 0 0, .slice none 0 0, .int .i64 0]) w := run_build w 26 _ _ (by kernel_rfl)
theorem ofG12 (l : List Int) (h : l.all (Gm.has gt12) = true) : Gm.ofG gt12 l 8 = Gm.ofN (Gm.gn false gt12.rs gt12.ns.length) (Gm.fst gt12) 8 l := by unfold Gm.ofG; rw [if_pos ⟨right12, h⟩]
theorem of12_1 : Gm.ofG gt12 [-2] 8 = 10 := (ofG12 _ (by decide +kernel)).trans of12a
theorem of12_2 : Gm.ofG gt12 [-2, 0] 8 = 3 := (ofG12 _ (by decide +kernel)).trans of12b
theorem of12_3 : Gm.ofG gt12 [] 8 = 8 := ofG12 _ rfl
theorem of12_4 : Gm.ofG gt12 [2] 8 = 0 := by unfold Gm.ofG; rw [if_neg (by rintro ⟨_, h⟩; exact absurd h (by decide +kernel))]
set_option maxHeartbeats 8000000 in
theorem alive12_any (w : World) : Calls Try.prog 4 #[] w fun e w' => e = .returned (.bool true) ∧ Below w.heap.size w w' := by
  have T1 := hide (gread_const et12 gt12 (by decide) (by decide) gre12 w w.heap.size rfl)
  have V1 := hide (fun w : World => show (convert 41 41 (.slice (some ⟨w.heap.size, 0, none⟩) 26 26)).run Try.prog (w.alloc (.cells #[.int .u8 37, .int .u8 37, .int .u8 32, .int .u8 115, .int .u8 32, .int .u8 58, .int .u8 32, .int .u8 110, .int .u8 32, .int .u8 39, .int .u8 97, .int .u8 39, .int .u8 32, .int .u8 59, .int .u8 32, .int .u8 110, .int .u8 32, .int .u8 58, .int .u8 32, .int .u8 39, .int .u8 98, .int .u8 39, .int .u8 32, .int .u8 124, .int .u8 32, .int .u8 59] 5)) = .ok (.slice (some ⟨w.heap.size, 0, none⟩) 26 26) (w.alloc (cellsM et12)) from lit_conv w et12 26 26)
  have U1 := V1.out w
  have hbg := fun w => build_gr12 w
  have hl1 : et12.length = 26 := rfl
  rw [hl1] at T1
  clear V1 hl1
  go_enter Try.func4, Try.ntmps4
  go_wp2_with fail
  refine T1.out.mono ?_; rintro _ w1 ⟨⟨g, rfl, hg1, hft1⟩, hb1⟩
  have HFI := hide (fun (x : World) (h : Below w1.heap.size w1 x) => (show Calls _ _ _ _ (RowZn _ _) from (fst_any g gt12 w1.heap.size x (hg1.below h (Nat.le_refl _)) hft1 h.size).mono fun e w' k => k.1 right12))
  have HFW := hide (fun (x : World) (h : Below w1.heap.size w1 x) => (show Calls _ _ _ _ (RowZn _ _) from (follow_any g gt12 w1.heap.size x (hg1.below h (Nat.le_refl _)) hft1 h.size).mono fun e w' k => k.1 right12))
  have HOF := hide (fun (l : List Int) (A : Option Addr) (c : Nat) (x : World) (h : Below w1.heap.size w1 x) (hr : RdI x x.heap.size A l) (hi : ∀ z ∈ l, Gm.In z) (hl : l.length ≤ 9223372036854775807) => of_any g gt12 l 8 A c x.heap.size x ((hg1.below h (Nat.le_refl _)).more h.size) hft1 (Nat.le_refl _) hr hi hl (by decide))
  rw [fst12] at HFI
  rw [flw12] at HFW
  obtain ⟨AT, cT, AN, cN, AR, cR, rfl, _, _, _, _, _, _⟩ := hg1
  have HQ1 := hide (One.start w1 #[.slice AT gt12.ts.length cT, .slice AN gt12.ns.length cN, .slice AR gt12.rs.length cR, .int .i64 gt12.st])
  have HY1 := hide (fun (x : World) (h : One w1 #[.slice AT gt12.ts.length cT, .slice AN gt12.ns.length cN, .slice AR gt12.rs.length cR, .int .i64 gt12.st] x) => And.intro (h.c 0 _ rfl) (And.intro (h.c 1 _ rfl) (And.intro (h.c 2 _ rfl) (h.c 3 _ rfl))))
  have HBF := hide (fun (x : World) (h : One w1 #[.slice AT gt12.ts.length cT, .slice AN gt12.ns.length cN, .slice AR gt12.rs.length cR, .int .i64 gt12.st] x) => hb1.trans (h.below.mono hb1.size))
  have hs1 : ∀ (x : World) (o : Obj), (x.alloc o).heap.size = x.heap.size + 1 := fun x o => by simp
  clear hb1 U1 T1 hft1
  go_wp2_with fail
  refine (HFI.out _ HQ1.out.below).mono ?_; rintro _ w2 ⟨q2, rfl, hq2, hu2, hb2⟩
  have HK2 := hide (HQ1.out.on hb2)
  have HS2 := hide (show Calls Try.prog 10 #[.slice (some ⟨q2, 0, none⟩) 2 2, .slice (some ⟨w2.heap.size, 0, none⟩) 2 2] (w2.alloc (.cells #[.int .u32 3, .int .u32 2] 31)) _ from sets_same (some ⟨q2, 0, none⟩) (some ⟨w2.heap.size, 0, none⟩) 2 2 2 [3, 2] (w2.alloc (cellsU (zi [3, 2]))) ((RdU.alloc (hu2.rd hu2.lt) (Nat.le_refl _) _).more (by simp)) (litZ w2 [3, 2]) (by decide) rfl)
  clear hq2 hu2 hb2 HFI
  go_wp2_with fail
  refine HS2.out.mono ?_; rintro _ w3 ⟨rfl, n3, hw3⟩
  have HK3 : Hid (One w1 #[.slice AT gt12.ts.length cT, .slice AN gt12.ns.length cN, .slice AR gt12.rs.length cR, .int .i64 gt12.st] w3) := hide (by rw [hw3]; exact (HK2.out.alloc _).drewN _)
  obtain ⟨x0, x1, x2, x3⟩ := HY1.out w3 HK3.out
  have l1 : w1.heap.size < w3.heap.size := HK3.out.size
  clear hw3 HS2
  go_wp2_with fail
  clear x0 x1 x2 x3 l1
  refine (HFW.out w3 HK3.out.below).mono ?_; rintro _ w4 ⟨q4, rfl, hq4, hu4, hb4⟩
  have HK4 := hide (HK3.out.on hb4)
  have HS4 := hide (show Calls Try.prog 10 #[.slice (some ⟨q4, 0, none⟩) 2 2, .slice (some ⟨w4.heap.size, 0, none⟩) 2 2] (w4.alloc (.cells #[.int .u32 4, .int .u32 1] 31)) _ from sets_same (some ⟨q4, 0, none⟩) (some ⟨w4.heap.size, 0, none⟩) 2 2 2 [4, 1] (w4.alloc (cellsU (zi [4, 1]))) ((RdU.alloc (hu4.rd hu4.lt) (Nat.le_refl _) _).more (by simp)) (litZ w4 [4, 1]) (by decide) rfl)
  clear hq4 hu4 hb4 HFW
  go_wp2_with fail
  refine HS4.out.mono ?_; rintro _ w5 ⟨rfl, n5, hw5⟩
  have HK5 : Hid (One w1 #[.slice AT gt12.ts.length cT, .slice AN gt12.ns.length cN, .slice AR gt12.rs.length cR, .int .i64 gt12.st] w5) := hide (by rw [hw5]; exact (HK4.out.alloc _).drewN _)
  obtain ⟨x0, x1, x2, x3⟩ := HY1.out w5 HK5.out
  have l1 : w1.heap.size < w5.heap.size := HK5.out.size
  clear hw5 HS4
  have HO6 := hide (show Calls Try.prog 9 #[.agg #[.slice AT gt12.ts.length cT, .slice AN gt12.ns.length cN, .slice AR gt12.rs.length cR, .int .i64 gt12.st], .slice (some ⟨w5.heap.size, 0, none⟩) 1 1, .int .u32 8] (w5.alloc (.cells #[.int .i64 (-2)] 3)) (fun e w' => e = .returned (.int .u32 10) ∧ Below (w5.alloc (cellsI [-2])).heap.size (w5.alloc (cellsI [-2])) w') from by have h := HOF.out [-2] (some ⟨w5.heap.size, 0, none⟩) 1 (w5.alloc (cellsI [-2])) (HK5.out.alloc (cellsI [-2])).below (litI1 w5 [-2]).1 (by unfold Gm.In; simp) (by simp); rw [of12_1] at h; exact h)
  go_wp2_with fail
  refine HO6.out.mono ?_; rintro _ w6 ⟨rfl, hb6⟩
  have HK6 : Hid (One w1 #[.slice AT gt12.ts.length cT, .slice AN gt12.ns.length cN, .slice AR gt12.rs.length cR, .int .i64 gt12.st] w6) := hide ((HK5.out.alloc (cellsI [-2])).on hb6)
  clear x0 x1 x2 x3 l1 hb6 HO6
  obtain ⟨x0, x1, x2, x3⟩ := HY1.out w6 HK6.out
  have l1 : w1.heap.size < w6.heap.size := HK6.out.size
  have HO7 := hide (show Calls Try.prog 9 #[.agg #[.slice AT gt12.ts.length cT, .slice AN gt12.ns.length cN, .slice AR gt12.rs.length cR, .int .i64 gt12.st], .slice (some ⟨w6.heap.size, 0, none⟩) 2 2, .int .u32 8] (w6.alloc (.cells #[.int .i64 (-2), .int .i64 0] 3)) (fun e w' => e = .returned (.int .u32 3) ∧ Below (w6.alloc (cellsI [-2, 0])).heap.size (w6.alloc (cellsI [-2, 0])) w') from by have h := HOF.out [-2, 0] (some ⟨w6.heap.size, 0, none⟩) 2 (w6.alloc (cellsI [-2, 0])) (HK6.out.alloc (cellsI [-2, 0])).below (litI1 w6 [-2, 0]).1 (by unfold Gm.In; simp) (by simp); rw [of12_2] at h; exact h)
  go_wp2_with fail
  refine HO7.out.mono ?_; rintro _ w7 ⟨rfl, hb7⟩
  have HK7 : Hid (One w1 #[.slice AT gt12.ts.length cT, .slice AN gt12.ns.length cN, .slice AR gt12.rs.length cR, .int .i64 gt12.st] w7) := hide ((HK6.out.alloc (cellsI [-2, 0])).on hb7)
  clear x0 x1 x2 x3 l1 hb7 HO7
  obtain ⟨x0, x1, x2, x3⟩ := HY1.out w7 HK7.out
  have l1 : w1.heap.size < w7.heap.size := HK7.out.size
  have HO8 := hide (show Calls Try.prog 9 #[.agg #[.slice AT gt12.ts.length cT, .slice AN gt12.ns.length cN, .slice AR gt12.rs.length cR, .int .i64 gt12.st], .slice none 0 0, .int .u32 8] w7 (fun e w' => e = .returned (.int .u32 8) ∧ Below w7.heap.size w7 w') from by have h := HOF.out [] none 0 w7 HK7.out.below (RdI.nil _ _ _) (by simp) (by simp); rw [of12_3] at h; exact h)
  go_wp2_with fail
  refine HO8.out.mono ?_; rintro _ w8 ⟨rfl, hb8⟩
  have HK8 : Hid (One w1 #[.slice AT gt12.ts.length cT, .slice AN gt12.ns.length cN, .slice AR gt12.rs.length cR, .int .i64 gt12.st] w8) := hide (HK7.out.on hb8)
  clear x0 x1 x2 x3 l1 hb8 HO8
  obtain ⟨x0, x1, x2, x3⟩ := HY1.out w8 HK8.out
  have l1 : w1.heap.size < w8.heap.size := HK8.out.size
  have HO9 := hide (show Calls Try.prog 9 #[.agg #[.slice AT gt12.ts.length cT, .slice AN gt12.ns.length cN, .slice AR gt12.rs.length cR, .int .i64 gt12.st], .slice (some ⟨w8.heap.size, 0, none⟩) 1 1, .int .u32 8] (w8.alloc (.cells #[.int .i64 2] 3)) (fun e w' => e = .returned (.int .u32 0) ∧ Below (w8.alloc (cellsI [2])).heap.size (w8.alloc (cellsI [2])) w') from by have h := HOF.out [2] (some ⟨w8.heap.size, 0, none⟩) 1 (w8.alloc (cellsI [2])) (HK8.out.alloc (cellsI [2])).below (litI1 w8 [2]).1 (by unfold Gm.In; simp) (by simp); rw [of12_4] at h; exact h)
  go_wp2_with fail
  refine HO9.out.mono ?_; rintro _ w9 ⟨rfl, hb9⟩
  have HK9 : Hid (One w1 #[.slice AT gt12.ts.length cT, .slice AN gt12.ns.length cN, .slice AR gt12.rs.length cR, .int .i64 gt12.st] w9) := hide ((HK8.out.alloc (cellsI [2])).on hb9)
  clear x0 x1 x2 x3 l1 hb9 HO9
  obtain ⟨x0, x1, x2, x3⟩ := HY1.out w9 HK9.out
  have l1 : w1.heap.size < w9.heap.size := HK9.out.size
  have HE := hide (show Calls _ _ _ _ (RowZm _ _ _) from fst_any _ gr012 w9.heap.size w9 (gr012_rd w9 _) gr012_fit (Nat.le_refl _))
  clear HOF
  go_wp2_with fail
  refine HE.out.mono ?_; rintro _ w10 hr
  obtain ⟨rfl, hb⟩ := hr.2 (by decide +kernel)
  have HK10 := hide (HK9.out.on hb)
  clear hr hb x0 x1 x2 x3 l1
  go_wp2
  go_ret
  exact ⟨rfl, HBF.out _ HK10.out⟩
end Go.Proofs.Ythjohhcgegcmhaa

namespace Go.Proofs.Ythjohhcgegcmhaa
set_option maxRecDepth 100000
namespace Gm
theorem ofG_lt {G : Gr} (l : List Int) {rest : Nat} (hr : rest < 4294967296) : ofG G l rest < 4294967296 := by
  unfold ofG
  split
  · rename_i h
    have hok := right_ok.1 h.1
    exact U32.ofN (fst_u32 hok) hr fun z hz => (has_in hok (List.all_eq_true.1 h.2 z hz)).1
  · decide
end Gm
end Go.Proofs.Ythjohhcgegcmhaa

namespace Go.Proofs.Ythjohhcgegcmhaa
set_option maxRecDepth 100000
open Go.RowKit

theorem Gm.rule_has {G : Gm.Gr} (hok : Gm.Ok G) {x : Gm.Rl} (hx : x ∈ G.rs) {z : Int} (hz : z ∈ x.r) : Gm.has G z = true := by
  have h := (Gm.rule_in (hok.rr x hx)).2.2.2 z hz
  unfold Gm.has
  split
  · exact decide_eq_true h.1
  · exact decide_eq_true h.2.1
theorem Gm.ofG_rule {G : Gm.Gr} (hr : Gm.right G = true) {x : Gm.Rl} (hx : x ∈ G.rs) (k rest : Nat) : Gm.ofG G (x.r.drop k) rest = Gm.ofN (Gm.gn false G.rs G.ns.length) (Gm.fst G) rest (x.r.drop k) := by
  unfold Gm.ofG
  rw [if_pos ⟨hr, List.all_eq_true.2 fun z hz => Gm.rule_has (Gm.right_ok.1 hr) hx (List.mem_of_mem_drop hz)⟩]
theorem Gm.flw_old {G : Gm.Gr} (hr : Gm.right G = true) {x : Gm.Rl} (hx : x ∈ G.rs) {k : Nat} (hk : k < x.r.length) (hz : x.r[k] < 0) : (Gm.flw G).getD (-1 - x.r[k]).toNat 0 ||| Gm.ofG G (x.r.drop (k + 1)) ((Gm.flw G).getD x.l.toNat 0) = (Gm.flw G).getD (-1 - x.r[k]).toNat 0 := by
  have hok := Gm.right_ok.1 hr
  rw [Gm.ofG_rule hr hx]
  refine Nat.eq_of_testBit_eq fun t => ?_
  rw [Nat.testBit_or]
  cases hb : (Gm.ofN (Gm.gn false G.rs G.ns.length) (Gm.fst G) ((Gm.flw G).getD x.l.toNat 0) (x.r.drop (k + 1))).testBit t
  · simp
  · have e : x.r = x.r.take k ++ x.r[k] :: x.r.drop (k + 1) := by rw [← List.drop_eq_getElem_cons hk, List.take_append_drop]
    rw [Gm.flw_has hok hx e hz t hb]; rfl
theorem Gm.flw_u32 {G : Gm.Gr} (hok : Gm.Ok G) : Gm.U32 (Gm.flw G) := fun i => by
  have h24 := ((Gm.terms_iff G.ts).1 hok.t).1
  refine Nat.lt_pow_two_of_testBit (n := 32) _ fun t ht => ?_
  cases hb : ((Gm.flw G).getD i 0).testBit t
  · rfl
  · have := Gm.fw_le hok ((Gm.flw_bit hok i t).1 hb)
    omega
theorem Gm.foldT {f : List Nat → Gm.Rl → List Nat} {rs : List Gm.Rl} {k : Nat} (h : k < rs.length) (s : List Nat) : (rs.take (k + 1)).foldl f s = f ((rs.take k).foldl f s) rs[k] := by
  rw [List.take_succ_eq_append_getElem h, List.foldl_append]; rfl
theorem Gm.fold_congr {f g : List Nat → Gm.Rl → List Nat} : ∀ (xs : List Gm.Rl) (s : List Nat), (∀ x ∈ xs, ∀ s, f s x = g s x) → xs.foldl f s = xs.foldl g s
  | [], _, _ => rfl
  | x :: xs, s, h => by
    rw [List.foldl_cons, List.foldl_cons, h x (List.mem_cons_self ..)]
    exact Gm.fold_congr xs _ fun y hy => h y (List.mem_cons_of_mem _ hy)
structure R13 (w wr : World) (gf gw gs : Nat) (a : Array Value) (F W s : List Nat) : Prop where
  f : UBZ wr gf F
  v : UBZ wr gw W
  s : UBZ wr gs s
  o : One w a wr
theorem R13.below {w wr w' : World} {gf gw gs : Nat} {a : Array Value} {F W s : List Nat} (h : R13 w wr gf gw gs a F W s) (hb : Below wr.heap.size wr w') : R13 w w' gf gw gs a F W s := ⟨h.f.below hb h.f.lt, h.v.below hb h.v.lt, h.s.below hb h.s.lt, h.o.on hb⟩
theorem R13.put {w wr : World} {gf gw gs : Nat} {a : Array Value} {F W s : List Nat} (h : R13 w wr gf gw gs a F W s) (h1 : gf ≠ gs) (h2 : gw ≠ gs) (hw : w.heap.size + 1 ≤ gs) (m v : Nat) : R13 w (wr.setCell ⟨gs, m, none⟩ (.int .u32 (v : Int))) gf gw gs a F W (s.set m v) := ⟨h.f.far h1 _, h.v.far h2 _, h.s.set_ m v, Below.setCell (p := ⟨gs, m, none⟩) h.o hw _⟩

set_option maxHeartbeats 16000000 in
theorem firstRules_walk (v : Value) (G : Gm.Gr) (w : World) (hg : RdGr w w.heap.size v G) (hf : Gm.Fit G) :
    Calls Try.prog 3 #[v] w fun e w' => e = .returned (.bool true) ∧ Below w.heap.size w w' := by
  have HGG := hide (fun (x : World) (h : Below w.heap.size w x) => hg.below h (Nat.le_refl _))
  have HAL := hide (fun (x : World) => alive12_any x)
  have TG := hide (fun (x : World) (h : Below w.heap.size w x) => great9_any v G w.heap.size x (HGG.out x h) h.size)
  have TR := hide (fun (x : World) (h : Below w.heap.size w x) => rright_any v G w.heap.size x (HGG.out x h) hf h.size)
  have TF := hide (fun (q : Gm.right G = true) (x : World) (h : Below w.heap.size w x) => (show Calls _ _ _ _ (RowZn _ _) from (fst_any v G w.heap.size x (HGG.out x h) hf h.size).mono fun e w' k => k.1 q))
  have TW := hide (fun (q : Gm.right G = true) (x : World) (h : Below w.heap.size w x) => (show Calls _ _ _ _ (RowZn _ _) from (follow_any v G w.heap.size x (HGG.out x h) hf h.size).mono fun e w' k => k.1 q))
  have TO := hide (fun (m : List Int) (A' : Option Addr) (c' rest : Nat) (hr' : RdI w w.heap.size A' m) (hi : ∀ z ∈ m, Gm.In z) (hm : m.length ≤ 9223372036854775807) (hre : rest < 4294967296) (x : World) (h : Below w.heap.size w x) => of_any v G m rest A' c' w.heap.size x (HGG.out x h) hf h.size (hr'.below h (Nat.le_refl _)) hi hm hre)
  have HFT := hide hf
  obtain ⟨A0, c0, A1, c1, A2, c2, rfl, _, ⟨hlN, hmN⟩, ⟨hlR, hmR⟩, _, _, hR⟩ := hg
  have HRl := hide hR
  have HQ0 := hide (One.start w #[.slice A0 G.ts.length c0, .slice A1 G.ns.length c1, .slice A2 G.rs.length c2, .int .i64 G.st])
  have HXC := hide (fun (x : World) (h : One w #[.slice A0 G.ts.length c0, .slice A1 G.ns.length c1, .slice A2 G.rs.length c2, .int .i64 G.st] x) => And.intro (h.c 0 _ rfl) (And.intro (h.c 1 _ rfl) (And.intro (h.c 2 _ rfl) (h.c 3 _ rfl))))
  clear hf hR
  go_enter Try.func3, Try.ntmps3
  go_wp2_with fail
  refine (HAL.out _).mono ?_; rintro _ w1 ⟨rfl, hb1⟩
  have HQ1 := hide (HQ0.out.on hb1)
  obtain ⟨x0, x1, x2, x3⟩ := HXC.out w1 HQ1.out
  clear hb1
  cases hgr : Gm.great G with
  | true =>
    rw [hgr] at TG
    go_wp2_with fail
    refine (TG.out _ HQ1.out.below).mono ?_; rintro _ w2 ⟨rfl, hb2⟩
    have HQ2 := hide (HQ1.out.on hb2)
    clear hb2
    go_wp2
    go_ret
    exact ⟨rfl, HQ2.out.below⟩
  | false =>
    rw [hgr] at TG
    cases hrt : Gm.right G with
    | false =>
      rw [hrt] at TR
      go_wp2_with fail
      refine (TG.out _ HQ1.out.below).mono ?_; rintro _ w2 ⟨rfl, hb2⟩
      have HQ2 := hide (HQ1.out.on hb2)
      clear x0 x1 x2 x3 hb2
      obtain ⟨x0, x1, x2, x3⟩ := HXC.out w2 HQ2.out
      go_wp2_with fail
      refine (TR.out _ HQ2.out.below).mono ?_; rintro _ w3 ⟨rfl, hb3⟩
      have HQ3 := hide (HQ2.out.on hb3)
      clear hb3
      go_wp2
      go_ret
      exact ⟨rfl, HQ3.out.below⟩
    | true =>
      have TF := hide (TF.out hrt)
      have TW := hide (TW.out hrt)
      have HRT := hide hrt
      have HOK := hide (Gm.right_ok.1 hrt)
      have HN : Hid (G.ns.length ≤ 40) := hide (by have := (Gm.nons_iff G).1 HOK.out.n; omega)
      have HT24 := hide ((Gm.terms_iff G.ts).1 HOK.out.t).1
      rw [hrt] at TR
      unfold RowZn at TF TW
      rw [Gm.fst_len] at TF
      rw [Gm.flw_len] at TW
      obtain ⟨F, hF⟩ : ∃ F, F = Gm.fst G := ⟨_, rfl⟩
      obtain ⟨W, hW⟩ : ∃ W, W = Gm.flw G := ⟨_, rfl⟩
      have HF := hide hF
      have HW := hide hW
      rw [← hF] at TF
      rw [← hW] at TW
      have HWl : Hid (W.length = G.ns.length) := hide (by rw [hW, Gm.flw_len])
      have HFl : Hid (F.length = G.ns.length) := hide (by rw [hF, Gm.fst_len])
      have HWu : Hid (Gm.U32 W) := hide (by rw [hW]; exact Gm.flw_u32 HOK.out)
      have hnn := HN.out
      have hlen : (G.ns.length : Int) ≤ 9223372036854775807 := by omega
      have hlen2 : (G.rs.length : Int) ≤ 9223372036854775807 := by omega
      clear hgr hrt hF hW
      go_wp2_with fail
      refine (TG.out _ HQ1.out.below).mono ?_; rintro _ w2 ⟨rfl, hb2⟩
      have HQ2 := hide (HQ1.out.on hb2)
      clear x0 x1 x2 x3 hb2 TG
      obtain ⟨x0, x1, x2, x3⟩ := HXC.out w2 HQ2.out
      go_upto_region 5 with fail
      refine (TR.out _ HQ2.out.below).mono ?_; rintro _ w3 ⟨rfl, hb3⟩
      have HQ3 := hide (HQ2.out.on hb3)
      clear x0 x1 x2 x3 hb3 TR
      go_upto_region 5 with fail
      have q0 := fun y : Calm.On w3.heap.size w3 => (HXC.out y.1 (HQ3.out.on y.2)).1
      have q1 := fun y : Calm.On w3.heap.size w3 => (HXC.out y.1 (HQ3.out.on y.2)).2.1
      have q2 := fun y : Calm.On w3.heap.size w3 => (HXC.out y.1 (HQ3.out.on y.2)).2.2.1
      have q3 := fun y : Calm.On w3.heap.size w3 => (HXC.out y.1 (HQ3.out.on y.2)).2.2.2
      have HSB : Hid (∀ z, Below w3.heap.size w3 z → ∃ q : Calm.On w3.heap.size w3, z = q.1) := hide (fun z hz => ⟨⟨z, hz⟩, rfl⟩)
      have HD : Hid (Below w3.heap.size w3 w3.drew) := hide (below_drewN (Below.refl _ _) 1)
      refine CalmN.region_tree (fun x => ∃ y : Calm.On w3.heap.size w3, x = y.1) (.one [0, 2] 1 (.one [] 3 (.fin [4, 5]))) (by kernel_rfl) (by kernel_rfl) (fun _ _ d _ _ h => by cases d <;> exact h) ⟨⟨w3.drew, HD.out⟩, rfl⟩ ?_
      simp only [CalmN.wpT, CalmN.wpSt, CalmN.pickOps, List.getElem?_toArray, List.getElem?_cons_zero, List.getElem?_cons_succ]
      repeat (go_big_quiet_step (fail))
      refine wpQuiet_nil ?_
      generalize w3.drew = wd at *
      clear q0 q1 q2 q3
      intro KK hKK
      rw [if_pos (by rfl)]
      go_wp2_with fail
      refine (TF.out wd (HQ3.out.on HD.out).below).mono ?_; rintro _ w4 ⟨gf, rfl, hgf, huf, hb⟩
      have HB4 := hide (HD.out.trans (hb.mono HD.out.size))
      have HUF := hide huf
      clear hb huf hgf
      go_wp2_with fail
      refine hKK _ _ (HSB.out _ HB4.out) (fun x => ∃ y : Calm.On w3.heap.size w3, x = y.1) (fun _ h => h) (HSB.out _ HB4.out) ?_
      clear hKK
      refine wpQuiet_nil ?_
      intro KK hKK
      rw [if_pos (by rfl)]
      go_wp2_with fail
      refine (TW.out w4 (HQ3.out.on HB4.out).below).mono ?_; rintro _ w5 ⟨gw, rfl, hgw, huw, hb⟩
      have HB5 := hide (HB4.out.trans (hb.mono HB4.out.size))
      have HUF5 := hide (HUF.out.below hb HUF.out.lt)
      have HUW5 := hide huw
      have HQ5 := hide (HQ3.out.on HB5.out)
      clear hb huw hgw TF TW HUF
      go_wp2_with fail
      refine hKK _ _ (HSB.out _ HB5.out) (fun x => ∃ y : Calm.On w3.heap.size w3, x = y.1) (fun _ h => h) (HSB.out _ HB5.out) ?_
      clear hKK
      repeat (go_big_quiet_step (fail))
      refine wpQuiet_nil ?_
      have hst := HOK.out.s0
      have hst1 := HOK.out.s1
      obtain ⟨ms, hm⟩ : ∃ m : Nat, G.st = (m : Int) := ⟨G.st.toNat, by omega⟩
      have hms : ms < G.ns.length := by omega
      have hms2 : (ms : Int) < (G.ns.length : Int) := by omega
      obtain ⟨x0, x1, x2, x3⟩ := HXC.out w5 HQ5.out
      rw [hm] at x3
      have lw := HUW5.out.lt
      have uw := HUW5.out.cell ms (by rw [HWl.out]; exact hms)
      have lg : w.heap.size < w5.heap.size := HQ5.out.size
      have hne : ((G.ns.length : Int) != (G.ns.length : Int)) = false := by simp
      have HBT : Hid ((W.getD ms 0).testBit G.ts.length = true) := hide (by have := Gm.flw_st HOK.out; rw [hm] at this; rw [HW.out]; simpa using this)
      have hwu := HWu.out ms
      generalize W.getD ms 0 = wst at *
      obtain ⟨sh, hsh⟩ : ∃ sh : Nat, sh = wst / 2 ^ G.ts.length := ⟨_, rfl⟩
      have hs1 : (wst : Int) / 2 ^ min G.ts.length 32 = (sh : Int) := by rw [Nat.min_eq_left (by have := HT24.out; omega), hsh]; simp
      have hs2 : bits BinOp.and IntKind.u32 (sh : Int) 1 = 1 := by
        have h1 := u32_and_nat sh 1 (by rw [hsh]; exact Nat.lt_of_le_of_lt (Nat.div_le_self _ _) hwu) (by decide)
        have h2 := HBT.out
        rw [Nat.testBit_eq_decide_div_mod_eq] at h2
        have h3 := of_decide_eq_true h2
        rw [← hsh] at h3
        rw [show ((1 : Nat) : Int) = 1 from rfl] at h1
        rw [h1, Nat.and_one_is_mod, h3]; rfl
      have hs3 : ((1 : Int) != 1) = false := rfl
      clear hsh hwu HBT
      clear HB4 HB5 HD HSB HQ1 HQ2 HQ3 hst hst1 hm hms
      go_upto_region 6 with fail
      go_quiet (fail)
      generalize hwq : w5.drewN nq = w6 at *
      have HQ6 : Hid (One w #[.slice A0 G.ts.length c0, .slice A1 G.ns.length c1, .slice A2 G.rs.length c2, .int .i64 G.st] w6) := hide (by rw [← hwq]; exact HQ5.out.drewN nq)
      have HUF6 : Hid (UBZ w6 gf F) := hide (by rw [← hwq]; exact HUF5.out.drewN nq)
      have HUW6 : Hid (UBZ w6 gw W) := hide (by rw [← hwq]; exact HUW5.out.drewN nq)
      clear hwq HQ5 HUF5 HUW5 x0 x1 x2 x3 lw uw lg hne hs1 hs2 hs3 hms2
      obtain ⟨x0, x1, x2, x3⟩ := HXC.out w6 HQ6.out
      have lg : w.heap.size < w6.heap.size := HQ6.out.size
      go_upto_region 9 with (at_make; refine mkU_arm rfl (.tmp 52) (.tmp 52) _ rfl Try.underlying29 G.ns.length _ _ rfl rfl rfl rfl (by omega) ?_; intro w7 hu hb hlt7)
      have HGN : Hid (gf ≠ w6.heap.size ∧ gw ≠ w6.heap.size ∧ w.heap.size + 1 ≤ w6.heap.size) := hide ⟨by have := HUF6.out.lt; omega, by have := HUW6.out.lt; omega, lg⟩
      have HR7 : Hid (R13 w w7 gf gw w6.heap.size #[.slice A0 G.ts.length c0, .slice A1 G.ns.length c1, .slice A2 G.rs.length c2, .int .i64 G.st] F W (List.replicate G.ns.length 0)) := hide ⟨HUF6.out.below hb HUF6.out.lt, HUW6.out.below hb HUW6.out.lt, by unfold UBZ; rw [zi_rep]; exact hu, HQ6.out.on hb⟩
      clear hu hb hlt7 HQ6 HUF6 HUW6 x0 x1 x2 x3 lg
      generalize w6.heap.size = gs at *
      obtain ⟨s0, hs0⟩ : ∃ s, s = List.replicate G.ns.length 0 := ⟨_, rfl⟩
      obtain ⟨f, hfd⟩ : ∃ f : List Nat → Gm.Rl → List Nat, f = fun s x => Gm.addN s x.l.toNat (Gm.ofG G x.r 0) := ⟨_, rfl⟩
      have HFD : Hid (∀ s x, f s x = Gm.addN s x.l.toNat (Gm.ofG G x.r 0)) := hide (fun s x => by rw [hfd])
      have HLS : Hid (∀ xs : List Gm.Rl, (xs.foldl f s0).length = G.ns.length) := hide (fun xs => by rw [hfd, Gm.fold_len (fun s x => Gm.addN_len _ _ _), hs0]; simp)
      have HUS : Hid (∀ xs : List Gm.Rl, Gm.U32 (xs.foldl f s0)) := hide (fun xs => by
        have h0 : Gm.U32 s0 := by rw [hs0]; exact (FsP.start G).2.1
        rw [hfd]
        clear hs0 hfd HLS
        induction xs generalizing s0 with
        | nil => exact h0
        | cons x xs ih => exact ih _ (h0.addN _ (Gm.ofG_lt x.r (by decide))))
      have HSF : Hid (G.rs.foldl f s0 = F) := hide (by
        rw [HF.out, ← Gm.sum_fst HOK.out, hfd, hs0]
        unfold Gm.sumR
        refine Gm.fold_congr G.rs _ fun x hx s => ?_
        have := Gm.ofG_rule HRT.out hx 0 0
        rw [List.drop_zero] at this
        rw [this])
      rw [← hs0] at HR7
      clear hs0 hfd
      go_wp2
      go_loopw [6] (fun vi wr => ∃ i : Nat, i ≤ G.rs.length ∧ vi = .int .i64 i ∧ Hid (R13 w wr gf gw gs #[.slice A0 G.ts.length c0, .slice A1 G.ns.length c1, .slice A2 G.rs.length c2, .int .i64 G.st] F W ((G.rs.take i).foldl f s0))) (fun vi _ => G.rs.length - (intOf vi).toNat)
      case atStart => exact ⟨0, Nat.zero_le _, rfl, HR7⟩
      case round =>
        clear HR7
        obtain ⟨i, hi, rfl, HWI⟩ := hrel
        obtain ⟨wi, hwi⟩ : ∃ wi : World, wi = wr := ⟨_, rfl⟩
        subst hwi
        have q2 := HWI.out.o.c 2 _ rfl
        have ld : w.heap.size < wi.heap.size := HWI.out.o.size
        by_cases hlt2 : i < G.rs.length
        · obtain ⟨g, o, rfl, hgB, hc⟩ := HRl.out (by omega)
          obtain ⟨k0, ⟨A', c', k1, hlc, _, hri⟩, k2⟩ := hc i hlt2
          have k0 := (HWI.out.o.below.cell (p := ⟨g, o + i * 3, none⟩) hgB).trans k0
          have k1 := (HWI.out.o.below.cell (p := ⟨g, o + i * 3 + 1, none⟩) hgB).trans k1
          have k2 := (HWI.out.o.below.cell (p := ⟨g, o + i * 3 + 2, none⟩) hgB).trans k2
          have hgs : g < wi.heap.size := by omega
          have hxm : G.rs[i] ∈ G.rs := List.getElem_mem hlt2
          have HXI := hide (rlIn HFT.out HOK.out hxm)
          have HTK := hide (Gm.foldT (f := f) hlt2 s0)
          have HFO := hide (fun (k : Nat) (hk : k < G.rs[i].r.length) (hz : G.rs[i].r[k] < 0) => Gm.flw_old HRT.out hxm hk hz)
          rw [← HW.out] at HFO
          have HRI : Hid (∀ z : World, Below w.heap.size w z → RdI z w.heap.size A' G.rs[i].r) := hide (fun z hz => hri.below hz (Nat.le_refl _))
          have HR0 := hide hri
          have HCL := hide (HLS.out (G.rs.take i))
          have HCU := hide (HUS.out (G.rs.take i))
          have HNX := hide (HFD.out ((G.rs.take i).foldl f s0) G.rs[i])
          generalize (G.rs.take i).foldl f s0 = cur at *
          generalize G.rs[i] = x at *
          obtain ⟨l, r, p⟩ := x
          obtain ⟨m, rfl⟩ : ∃ m : Nat, l = (m : Int) := ⟨l.toNat, by have := HXI.out.l0; simp only at this; omega⟩
          simp only [Int.toNat_natCast] at k0 k1 k2 hlc HFO HRI HR0 HNX
          have hmn : m < G.ns.length := by have := HXI.out.l1; simp only at this; omega
          have hmi1 : (m : Int) < (G.ns.length : Int) := by omega
          have HMN := hide hmn
          have HLC := hide hlc
          have hr6 : r.length ≤ 6 := HXI.out.c
          have HR6 := hide hr6
          have hrl : (r.length : Int) ≤ 9223372036854775807 := by omega
          have HOF := hide (TO.out r A' c' 0 HR0.out HXI.out.i (by omega) (by decide))
          have HVL := Gm.ofG_lt (G := G) r (rest := 0) (by decide)
          have HX : Hid ((G.rs.take (i + 1)).foldl f s0 = cur.set m (cur.getD m 0 ||| Gm.ofG G r 0)) := hide (by rw [HTK.out, HNX.out]; rfl)
          generalize Gm.ofG G r 0 = vv at *
          have ho := u32_or_nat (cur.getD m 0) vv (HCU.out m) HVL
          have HCM : Hid (m < cur.length) := hide (by rw [HCL.out]; exact hmn)
          generalize cur.getD m 0 ||| vv = v2 at *
          generalize hv1 : cur.getD m 0 = v1 at *
          have HV1 := hide hv1
          clear hv1 HVL
          obtain ⟨wb, hwb⟩ : ∃ y, y = wi.alloc (.cells #[.int .i64 m, .slice A' r.length c', .int .i64 p] 34) := ⟨_, rfl⟩
          have HBX : Hid (wb.heap[wi.heap.size]? = some (.cells #[.int .i64 m, .slice A' r.length c', .int .i64 p] 34 (0, 0))) := hide (by rw [hwb]; exact heap_alloc_new wi _)
          have HRB : Hid (R13 w wb gf gw gs #[.slice A0 G.ts.length c0, .slice A1 G.ns.length c1, .slice (some ⟨g, o, none⟩) G.rs.length c2, .int .i64 G.st] F W cur) := hide (HWI.out.below (by rw [hwb]; exact (Below.refl _ wi).alloc (Nat.le_refl _) _))
          have HNE : Hid (gs ≠ wi.heap.size) := hide (by have := HWI.out.s.lt; omega)
          clear hc hri hlc hxm hmn hr6 HTK HNX
          go_upto_region 13 with fail
          rw [← hwb]
          clear hwb q2 k0 k1 k2 HWI
          have hbw := ld
          clear ld
          generalize wi.heap.size = bx at *
          have HLW : Hid (w.heap.size < wb.heap.size) := hide HRB.out.o.size
          have HLX : Hid (bx < wb.heap.size) := hide (Array.getElem?_eq_some_iff.1 HBX.out).1
          have hgg := (Below.block HRB.out.o w.heap.size (by omega)).trans (heap_alloc_new w _)
          have q0 := fun z : OnB2 w.heap.size bx wb => cell_of_row z.1 _ 0 _ _ _ (z.2.1.trans hgg)
          have q1 := fun z : OnB2 w.heap.size bx wb => cell_of_row z.1 _ 1 _ _ _ (z.2.1.trans hgg)
          have q2 := fun z : OnB2 w.heap.size bx wb => cell_of_row z.1 _ 2 _ _ _ (z.2.1.trans hgg)
          have q3 := fun z : OnB2 w.heap.size bx wb => cell_of_row z.1 _ 3 _ _ _ (z.2.1.trans hgg)
          have q5 := fun z : OnB2 w.heap.size bx wb => cell_of_row z.1 _ 0 _ _ _ (z.2.2.trans HBX.out)
          have q6 := fun z : OnB2 w.heap.size bx wb => cell_of_row z.1 _ 1 _ _ _ (z.2.2.trans HBX.out)
          have HRD : Hid (R13 w wb.drew gf gw gs #[.slice A0 G.ts.length c0, .slice A1 G.ns.length c1, .slice (some ⟨g, o, none⟩) G.rs.length c2, .int .i64 G.st] F W cur) := hide ⟨HRB.out.f, HRB.out.v, HRB.out.s, HRB.out.o.drewN 1⟩
          have HED : Hid (∀ i : Nat, wb.drew.heap[i]? = wb.heap[i]?) := hide (fun _ => rfl)
          have HZD : Hid (wb.drew.heap.size = wb.heap.size) := hide rfl
          have hS : ∃ z : OnB2 w.heap.size bx wb, wb.drew = z.1 := ⟨⟨wb.drew, rfl, rfl⟩, rfl⟩
          have kmd : wb.drew.cell? ⟨gs, m, none⟩ = some (.int .u32 (v1 : Int)) := by rw [HRD.out.s.cell m HCM.out, HV1.out]
          clear hgg
          refine CalmN.region_tree (fun x => ∃ z : OnB2 w.heap.size bx wb, x = z.1) (.two [0, 1, 2, 3, 4, 5, 6, 8, 9, 10] 7 (.one [] 11 (.one [12, 13] 14 (.fin []))) 11 (.one [] 7 (.one [12, 13] 14 (.fin [])))) (by kernel_rfl) (by kernel_rfl) (fun _ _ d _ _ h => by cases d <;> exact h) ⟨⟨wb.drew, rfl, rfl⟩, rfl⟩ ?_
          rw [CalmN.wpT]
          simp only [CalmN.pickOps, List.getElem?_toArray, List.getElem?_cons_zero, List.getElem?_cons_succ]
          repeat (go_big_quiet_step (fail))
          generalize wb.drew = wd at *
          clear q0 q1 q2 q3 q5 q6
          refine wpQuiet_nil ⟨?_, ?_⟩
          case' refine_1 =>
            simp only [CalmN.wpT, CalmN.wpSt, CalmN.pickOps, List.getElem?_toArray, List.getElem?_cons_zero, List.getElem?_cons_succ]
            intro KK hKK
            rw [if_pos (by rfl)]
            go_wp2_with fail
            refine hKK _ _ hS (fun x => ∃ z : OnB2 w.heap.size bx wb, x = z.1) (fun _ h => h) hS ?_
            clear hKK
            refine wpQuiet_nil ?_
            intro KK hKK
            rw [if_pos (by rfl)]
            go_wp2_with fail
            refine (HOF.out wd HRD.out.o.below).mono ?_; rintro _ we ⟨rfl, hb⟩
            have HRE := hide (HRD.out.below hb)
            have hS : ∃ z : OnB2 w.heap.size bx wb, we = z.1 := ⟨⟨we, (hb.block _ (by rw [HZD.out]; exact HLW.out)).trans (HED.out _), (hb.block _ (by rw [HZD.out]; exact HLX.out)).trans (HED.out _)⟩, rfl⟩
            have HBE := hide (And.intro ((hb.block _ (by rw [HZD.out]; exact HLW.out)).trans (HED.out _)) ((hb.block _ (by rw [HZD.out]; exact HLX.out)).trans (HED.out _)))
            have km := HRE.out.s.cell m HCM.out
            rw [HV1.out] at km
            have fm := HRE.out.s.frozen m
            have lu := HRE.out.s.lt
            clear hb
            go_wp2_with fail
            refine hKK _ _ hS (fun x => ∃ z : OnB2 w.heap.size bx wb, x = z.1) (fun _ h => h) hS ?_
            clear hKK
          case' refine_2 =>
            simp only [CalmN.wpT, CalmN.wpSt, CalmN.pickOps, List.getElem?_toArray, List.getElem?_cons_zero, List.getElem?_cons_succ]
            intro KK hKK
            rw [if_pos (by rfl)]
            go_wp2_with fail
            refine (HOF.out wd HRD.out.o.below).mono ?_; rintro _ we ⟨rfl, hb⟩
            have HRE := hide (HRD.out.below hb)
            have hS : ∃ z : OnB2 w.heap.size bx wb, we = z.1 := ⟨⟨we, (hb.block _ (by rw [HZD.out]; exact HLW.out)).trans (HED.out _), (hb.block _ (by rw [HZD.out]; exact HLX.out)).trans (HED.out _)⟩, rfl⟩
            have HBE := hide (And.intro ((hb.block _ (by rw [HZD.out]; exact HLW.out)).trans (HED.out _)) ((hb.block _ (by rw [HZD.out]; exact HLX.out)).trans (HED.out _)))
            have km := HRE.out.s.cell m HCM.out
            rw [HV1.out] at km
            have fm := HRE.out.s.frozen m
            have lu := HRE.out.s.lt
            clear hb
            go_wp2_with fail
            refine hKK _ _ hS (fun x => ∃ z : OnB2 w.heap.size bx wb, x = z.1) (fun _ h => h) hS ?_
            clear hKK
            refine wpQuiet_nil ?_
            intro KK hKK
            rw [if_pos (by rfl)]
            go_wp2_with fail
            refine hKK _ _ hS (fun x => ∃ z : OnB2 w.heap.size bx wb, x = z.1) (fun _ h => h) hS ?_
            clear hKK
          all_goals
            repeat (go_big_quiet_step (fail))
            refine wpQuiet_nil ?_
            obtain ⟨wf, hwf⟩ : ∃ y, y = we.setCell ⟨gs, m, none⟩ (.int .u32 (v2 : Int)) := ⟨_, rfl⟩
            have HRF : Hid (R13 w wf gf gw gs #[.slice A0 G.ts.length c0, .slice A1 G.ns.length c1, .slice (some ⟨g, o, none⟩) G.rs.length c2, .int .i64 G.st] F W ((G.rs.take (i + 1)).foldl f s0)) := hide (by rw [hwf, HX.out]; exact HRE.out.put HGN.out.1 HGN.out.2.1 HGN.out.2.2 m v2)
            have HBF : Hid (wf.heap[w.heap.size]? = wb.heap[w.heap.size]? ∧ wf.heap[bx]? = wb.heap[bx]?) := hide (by rw [hwf]; exact ⟨(Below.heap_setCell we ⟨gs, m, none⟩ _ _ (by have := HGN.out.2.2; simp only; omega)).trans HBE.out.1, (Below.heap_setCell we ⟨gs, m, none⟩ _ _ (fun e => HNE.out e.symm)).trans HBE.out.2⟩)
            have hS2 : ∃ z : OnB2 w.heap.size bx wb, wf = z.1 := ⟨⟨wf, HBF.out⟩, rfl⟩
            intro KK hKK
            rw [if_pos (by rfl)]
            go_wp2_with fail
            rw [← hwf]
            refine hKK _ _ hS2 (fun x => ∃ z : OnB2 w.heap.size bx wb, x = z.1) (fun _ h => h) hS2 ?_
            clear hKK hwf hS2
            refine wpQuiet_nil ?_
            have HBX2 := hide (HBF.out.2.trans HBX.out)
            clear HRE HBE HBF HRD HED HZD km fm lu hS
            go_wp2
            go_loopw [8] (fun vk wr => ∃ k : Nat, k ≤ r.length ∧ vk = .int .i64 k ∧ Hid (R13 w wr gf gw gs #[.slice A0 G.ts.length c0, .slice A1 G.ns.length c1, .slice (some ⟨g, o, none⟩) G.rs.length c2, .int .i64 G.st] F W ((G.rs.take (i + 1)).foldl f s0)) ∧ Hid (wr.heap[bx]? = some (.cells #[.int .i64 m, .slice A' r.length c', .int .i64 p] 34 (0, 0)))) (fun vk _ => r.length - (intOf vk).toNat)
            case atStart => exact ⟨0, Nat.zero_le _, rfl, HRF, HBX2⟩
            case round =>
              clear HRF HBX2
              obtain ⟨k, hk, rfl, HW2, HBK⟩ := hrel
              have lx := (Array.getElem?_eq_some_iff.1 HBK.out).1
              have c1' := cell_of_row wr _ 1 _ _ _ HBK.out
              by_cases hlt3 : k < r.length
              · obtain ⟨gr, orr, rfl, hgb, hc⟩ := (HRI.out wr HW2.out.o.below) (by omega)
                have k0 := hc k hlt3
                rw [L.gd_lt hlt3] at k0
                have hzi := HXI.out.i _ (List.getElem_mem hlt3)
                have hzn := HXI.out.n _ (List.getElem_mem hlt3)
                have HOL := hide (HFO.out k hlt3)
                clear hc
                by_cases h0 : r[k] < 0
                · have HOL := hide (HOL.out h0)
                  generalize r[k] = z at *
                  unfold Gm.In at hzi
                  have hzl := hzn h0
                  obtain ⟨m2, hm2⟩ : ∃ m2 : Nat, -1 - z = (m2 : Int) := ⟨(-1 - z).toNat, by omega⟩
                  rw [hm2] at hzl HOL
                  simp only [Int.toNat_natCast] at HOL
                  have hz0 : decide (0 ≤ z) = false := decide_eq_false (by omega)
                  have hwz : IntKind.i64.wrap (-1 - z) = (m2 : Int) := by rw [IntWalk.i64_in _ (by omega)]; exact hm2
                  have HM2 : Hid (m2 < W.length) := hide (by rw [HWl.out]; omega)
                  have HM1 : Hid (m < W.length) := hide (by rw [HWl.out]; exact HMN.out)
                  have hmi2 : (m2 : Int) < (G.ns.length : Int) := hzl
                  obtain ⟨j, hj⟩ : ∃ j : Nat, j = k + 1 := ⟨_, rfl⟩
                  have hwj : IntKind.i64.wrap ((k : Int) + 1) = (j : Int) := by rw [IntWalk.i64_in _ (by have := HR6.out; omega)]; omega
                  have S1 := fun w => sliceI_from w (some ⟨gr, orr, none⟩) c' r.length j (by omega)
                  have HOF2 := TO.out (r.drop j) (dropA (some ⟨gr, orr, none⟩) c' j) (c' - j) (W.getD m 0) (HR0.out.dropA HLC.out j) (fun z hz => HXI.out.i z (List.mem_of_mem_drop hz)) (by rw [List.length_drop]; have := HR6.out; omega) (HWu.out m)
                  rw [List.length_drop] at HOF2
                  have HOF2 := hide HOF2
                  rw [← hj] at HOL
                  have hvl := Gm.ofG_lt (G := G) (r.drop j) (HWu.out m)
                  have hnw := (Gm.new_iff (HWu.out m2) hvl).2 HOL.out
                  have han := u32_andNot_nat (Gm.ofG G (r.drop j) (W.getD m 0)) (W.getD m2 0) hvl (HWu.out m2)
                  rw [hnw] at han
                  have hn0 : (((0 : Nat) : Int) != 0) = false := rfl
                  have HJ := hide hj
                  have d1 := fun y : Calm.On wr.heap.size wr => (y.2.cell (p := ⟨gw, m, none⟩) HW2.out.v.lt).trans (HW2.out.v.cell m HM1.out)
                  generalize Gm.ofG G (r.drop j) (W.getD m 0) = vv at *
                  generalize W.getD m 0 = tm1 at *
                  have km2 := HW2.out.v.cell m2 HM2.out
                  generalize W.getD m2 0 = tm2 at *
                  generalize dropA (some ⟨gr, orr, none⟩) c' j = D at *
                  generalize r.length - j = nd at *
                  generalize c' - j = cd at *
                  have hgx := HW2.out.o.c
                  have q0 := fun y : Calm.On wr.heap.size wr => (y.2.cell (p := ⟨w.heap.size, 0, none⟩) HW2.out.o.size).trans (HW2.out.o.c 0 _ rfl)
                  have q1 := fun y : Calm.On wr.heap.size wr => (y.2.cell (p := ⟨w.heap.size, 1, none⟩) HW2.out.o.size).trans (HW2.out.o.c 1 _ rfl)
                  have q2 := fun y : Calm.On wr.heap.size wr => (y.2.cell (p := ⟨w.heap.size, 2, none⟩) HW2.out.o.size).trans (HW2.out.o.c 2 _ rfl)
                  have q3 := fun y : Calm.On wr.heap.size wr => (y.2.cell (p := ⟨w.heap.size, 3, none⟩) HW2.out.o.size).trans (HW2.out.o.c 3 _ rfl)
                  have p0 := fun y : Calm.On wr.heap.size wr => (y.2.cell (p := ⟨bx, 0, none⟩) lx).trans (cell_of_row wr _ 0 _ _ _ HBK.out)
                  have p1 := fun y : Calm.On wr.heap.size wr => (y.2.cell (p := ⟨bx, 1, none⟩) lx).trans c1'
                  have HSB : Hid (∀ z, Below wr.heap.size wr z → ∃ q : Calm.On wr.heap.size wr, z = q.1) := hide (fun z hz => ⟨⟨z, hz⟩, rfl⟩)
                  have HD : Hid (Below wr.heap.size wr wr.drew) := hide (below_drewN (Below.refl _ _) 1)
                  have HKZ := hide k0
                  have HKM := hide km2
                  have HGR : Hid (gr < wr.heap.size) := hide (Nat.lt_of_lt_of_le hgb HW2.out.o.below.size)
                  clear hzi hzn hzl h0 hm2 hj HOL hvl hnw hgx
                  go_upto_region 18 with fail
                  refine CalmN.region_tree (fun x => ∃ y : Calm.On wr.heap.size wr, x = y.1) (.one [0, 1, 2, 3, 4, 5, 6, 7, 8, 9, 10] 11 (.fin [12])) (by kernel_rfl) (by kernel_rfl) (fun _ _ d _ _ h => by cases d <;> exact h) ⟨⟨wr.drew, HD.out⟩, rfl⟩ ?_
                  simp only [CalmN.wpT, CalmN.wpSt, CalmN.pickOps, List.getElem?_toArray, List.getElem?_cons_zero, List.getElem?_cons_succ]
                  repeat (go_big_quiet_step (fail))
                  refine wpQuiet_nil ?_
                  generalize wr.drew = wd2 at *
                  clear q0 q1 q2 q3 p0 p1 d1 k0 km2 c1'
                  intro KK hKK
                  rw [if_pos (by rfl)]
                  go_wp2_with fail
                  refine (HOF2.out wd2 (HW2.out.o.on HD.out).below).mono ?_; rintro _ we2 ⟨rfl, hb⟩
                  have HB2 := hide (HD.out.trans (hb.mono HD.out.size))
                  clear hb
                  go_wp2_with fail
                  refine hKK _ _ (HSB.out _ HB2.out) (fun x => ∃ y : Calm.On wr.heap.size wr, x = y.1) (fun _ h => h) (HSB.out _ HB2.out) ?_
                  clear hKK
                  repeat (go_big_quiet_step (fail))
                  refine wpQuiet_nil ?_
                  have HWE := hide (HW2.out.below HB2.out)
                  have HBE2 := hide ((HB2.out.block bx lx).trans HBK.out)
                  have e1 := cell_of_row we2 _ 1 _ _ _ HBE2.out
                  have ez := (HB2.out.cell (p := ⟨gr, orr + k, none⟩) HGR.out).trans HKZ.out
                  have em := (HB2.out.cell (p := ⟨gw, m2, none⟩) HW2.out.v.lt).trans HKM.out
                  have lx2 := (Array.getElem?_eq_some_iff.1 HBE2.out).1
                  have lg2 : gr < we2.heap.size := Nat.lt_of_lt_of_le HGR.out HB2.out.size
                  have lw2 := HWE.out.v.lt
                  clear S1
                  go_wp2
                  go_roundw
                  case rel => exact ⟨k + 1, hlt3, by rw [HJ.out], HWE, HBE2⟩
                  case measure => have := HJ.out; simp [intOf]; omega
                · have hz0 : decide (0 ≤ r[k]) = true := decide_eq_true (by omega)
                  generalize r[k] = z at *
                  clear hzi hzn h0 HOL
                  go_wp2
                  go_roundw
                  case rel => exact ⟨k + 1, hlt3, by go_num, HW2, HBK⟩
                  case measure => simp [intOf]; omega
              · obtain rfl : k = r.length := by omega
                go_wp2
                go_roundw
                case rel => exact ⟨i + 1, hlt2, by go_num, HW2⟩
                case measure => simp [intOf]; omega
        · obtain rfl : i = G.rs.length := by omega
          rw [List.take_length, HSF.out] at HWI
          have HSS := hide (sets_same (some ⟨gs, 0, none⟩) (some ⟨gf, 0, none⟩) G.ns.length G.ns.length G.ns.length F wi (HWI.out.s.rd HWI.out.s.lt) (HWI.out.f.rd HWI.out.f.lt) (by rw [HFl.out]; omega) HFl.out.symm)
          go_wp2_with fail
          refine HSS.out.mono ?_; rintro _ w9 ⟨rfl, n9, hw9⟩
          have HB9 : Hid (Below w.heap.size w w9) := hide (by rw [hw9]; exact below_drewN HWI.out.o.below _)
          clear hw9
          go_wp2
          go_ret
          exact ⟨rfl, HB9.out⟩
end Go.Proofs.Ythjohhcgegcmhaa

namespace Go.Proofs.Ythjohhcgegcmhaa
open Go.ChangeShapes Go.WideShapes Go.Deep Go.RowKit Go.Joins

section
variable {H : Type} {enc : TypeId × Value → H} {P : Program} {w : World} {base : Nat} {spare : Nat → Bool} {held : Bool}

theorem open_rows {t e : TypeId} {fs : Array Field} {fuel : Nat} {cs : List Value} {x : DataW H × List MemPlace} (ht : P.underlying t = some (.slice e)) (he : P.underlying e = some (.struct fs))
    (hone : oneCellFields P fs = true) (hC : P.cellsOf e = fs.size) (h : DataW.trod enc P w base spare held fuel t cs = some x) :
    cs = [.slice none 0 0] ∨
    ∃ (a : Addr) (len cap : Nat), cs = [.slice (some a) len cap] ∧ len ≤ cap ∧ cap ≤ maxLen ∧
      ∀ i, i < len → ∀ (j : Nat) (f : Field), fs[j]? = some f → ∃ (v : Value) (y : DataW H × List MemPlace) (n : Nat), w.cell? (a.add (i * fs.size + j)) = some v ∧ DataW.trod enc P w base spare held n f.type [v] = some y := by
  rcases open_slice ht h with h0 | ⟨a, len, cap, m, n, D, Pl, hcs, hb, hl, hm, hmm, hx, hi⟩
  · exact .inl h0.1
  · refine .inr ⟨a, len, cap, hcs, hl, hm, fun i him j f hj => ?_⟩
    obtain ⟨cs', hc, ht'⟩ := hi i (by rw [hmm]; split <;> omega)
    rw [hC] at hc
    obtain ⟨ys, n', hn', hy, hlen, hyl, hf⟩ := DataW.trod_struct he ht'
    obtain ⟨_, hcl, hat⟩ := World.cells?_some hc
    obtain ⟨ho, hk⟩ := hone_of hone j f hj
    have hjl : j < fs.size := (Array.getElem?_eq_some_iff.1 hj).1
    have hcell := hat j hjl
    have hv : cs'[j]? = some (cs'[j]'(by omega)) := List.getElem?_eq_getElem (by omega)
    have h1 := hf j f hj
    rw [ho, hk] at h1
    have hone' : (cs'.drop j).take 1 = [cs'[j]'(by omega)] := by
      rw [List.drop_eq_getElem_cons (by omega)]
      rfl
    rw [hone'] at h1
    have hys : ys[j]? = some (ys[j]'(by omega)) := List.getElem?_eq_getElem (by omega)
    refine ⟨_, _, n', ?_, h1.trans hys⟩
    rw [← Go.Deep.add_add, hcell, hv]

theorem plain_addr {a : Addr} {k : Nat} {v : Value} (h : w.cell? (a.add k) = some v) (hk : k = 0) : a = ⟨a.block, a.off, none⟩ := by
  subst hk
  obtain ⟨b, o, s⟩ := a
  obtain rfl : s = none := by simpa [Addr.add] using World.cell?_spot h
  rfl

theorem open_tms {t e : TypeId} {f0 f1 f2 : Field} {fuel : Nat} {cs : List Value} {x : DataW H × List MemPlace} (ht : P.underlying t = some (.slice e)) (he : P.underlying e = some (.struct #[f0, f1, f2]))
    (hone : oneCellFields P #[f0, f1, f2] = true) (hC : P.cellsOf e = 3) (h0 : P.underlying f0.type = some .string) (h1 : P.underlying f1.type = some (.int .i64)) (h2 : P.underlying f2.type = some (.int .i64)) (h : DataW.trod enc P w base spare held fuel t cs = some x) :
    ∃ A n c ts, cs = [.slice A n c] ∧ n = ts.length ∧ n ≤ c ∧ c ≤ 9223372036854775807 ∧ RdTm w w.heap.size A ts ∧ ∀ x ∈ ts, K.Tx x.nm ∧ Gm.In x.lv ∧ Gm.In x.wy := by
  rcases open_rows ht he hone hC h with rfl | ⟨a, len, cap, rfl, hl, hm, hi⟩
  · exact ⟨none, 0, 0, [], rfl, rfl, Nat.le_refl _, by omega, fun h => absurd rfl h, fun x hx => by simp at hx⟩
  · have hp : ∀ i, i < len → ∃ t : Gm.Tm, (w.cell? (a.add (i * 3)) = some (.string (K.str t.nm)) ∧ w.cell? (a.add (i * 3 + 1)) = some (.int .i64 t.lv) ∧ w.cell? (a.add (i * 3 + 2)) = some (.int .i64 t.wy)) ∧ K.Tx t.nm ∧ Gm.In t.lv ∧ Gm.In t.wy := fun i hil => by
      obtain ⟨v0, y0, n0, c0, t0⟩ := hi i hil 0 f0 rfl
      obtain ⟨v1, y1, n1, c1, t1⟩ := hi i hil 1 f1 rfl
      obtain ⟨v2, y2, n2, c2, t2⟩ := hi i hil 2 f2 rfl
      obtain ⟨s, e0, _, hs0⟩ := DataW.trod_string h0 t0
      obtain ⟨z1, e1, _, w1⟩ := DataW.trod_int h1 t1
      obtain ⟨z2, e2, _, w2⟩ := DataW.trod_int h2 t2
      injection e0 with e0; injection e1 with e1; injection e2 with e2
      subst e0 e1 e2
      obtain ⟨l, hl, rfl⟩ := K.txt s hs0
      exact ⟨⟨l, z1, z2⟩, ⟨c0, c1, c2⟩, hl, bounds_i64 w1, bounds_i64 w2⟩
    obtain ⟨ts, htl, hts⟩ := list_of len _ hp
    refine ⟨some a, len, cap, ts, rfl, htl.symm, hl, by unfold maxLen at hm; omega, fun hn => ?_, fun x hx => ?_⟩
    · have ha := plain_addr (hts 0 (by omega)).1.1 (Nat.zero_mul 3)
      refine ⟨a.block, a.off, congrArg some ha, ?_, fun i hi => ?_⟩
      · have := block_lt_of_cell (hts 0 (by omega)).1.1
        simpa [Addr.add] using this
      · have := (hts i hi).1
        rw [ha, add_plain, add_plain, add_plain] at this
        exact this
    · obtain ⟨i, hi, rfl⟩ := List.getElem_of_mem hx
      exact (hts i hi).2

theorem open_rls {t e u : TypeId} {f0 f1 f2 : Field} {fuel : Nat} {cs : List Value} {x : DataW H × List MemPlace} (ht : P.underlying t = some (.slice e)) (he : P.underlying e = some (.struct #[f0, f1, f2]))
    (hone : oneCellFields P #[f0, f1, f2] = true) (hC : P.cellsOf e = 3) (h0 : P.underlying f0.type = some (.int .i64)) (h1 : P.underlying f1.type = some (.slice u)) (hu : P.underlying u = some (.int .i64)) (hcu : P.cellsOf u = 1) (h2 : P.underlying f2.type = some (.int .i64)) (h : DataW.trod enc P w base spare held fuel t cs = some x) :
    ∃ A n c rs, cs = [.slice A n c] ∧ n = rs.length ∧ n ≤ c ∧ c ≤ 9223372036854775807 ∧ RdRl w w.heap.size A rs ∧ ∀ x ∈ rs, Gm.In x.l ∧ Gm.In x.p ∧ ∀ z ∈ x.r, Gm.In z := by
  rcases open_rows ht he hone hC h with rfl | ⟨a, len, cap, rfl, hl, hm, hi⟩
  · exact ⟨none, 0, 0, [], rfl, rfl, Nat.le_refl _, by omega, fun h => absurd rfl h, fun x hx => by simp at hx⟩
  · have hp : ∀ i, i < len → ∃ t : Gm.Rl, (w.cell? (a.add (i * 3)) = some (.int .i64 t.l) ∧ (∃ A' c', w.cell? (a.add (i * 3 + 1)) = some (.slice A' t.r.length c') ∧ t.r.length ≤ c' ∧ c' ≤ 9223372036854775807 ∧ RdI w w.heap.size A' t.r) ∧ w.cell? (a.add (i * 3 + 2)) = some (.int .i64 t.p)) ∧ Gm.In t.l ∧ Gm.In t.p ∧ ∀ z ∈ t.r, Gm.In z := fun i hil => by
      obtain ⟨v0, y0, n0, c0, t0⟩ := hi i hil 0 f0 rfl
      obtain ⟨v1, y1, n1, c1, t1⟩ := hi i hil 1 f1 rfl
      obtain ⟨v2, y2, n2, c2, t2⟩ := hi i hil 2 f2 rfl
      obtain ⟨z0, e0, _, w0⟩ := DataW.trod_int h0 t0
      obtain ⟨z2, e2, _, w2⟩ := DataW.trod_int h2 t2
      injection e0 with e0; injection e2 with e2
      subst e0 e2
      rcases open_ints h1 hu hcu t1 with ⟨hcs, _⟩ | ⟨x, l, c, zs, hcs, _, hl, hm, hz, hx, hcell, hwz⟩
      · injection hcs with hcs
        subst hcs
        exact ⟨⟨z0, [], z2⟩, ⟨c0, ⟨none, 0, c1, Nat.le_refl _, by omega, RdI.nil _ _ _⟩, c2⟩, bounds_i64 w0, bounds_i64 w2, fun z hz => by simp at hz⟩
      · injection hcs with hcs
        subst hcs
        have hzl : l ≤ zs.length := by rw [hz]; split <;> omega
        refine ⟨⟨z0, zs.take l, z2⟩, ⟨c0, ⟨some x, c, ?_, ?_, by unfold maxLen at hm; omega, fun hn => ?_⟩, c2⟩, bounds_i64 w0, bounds_i64 w2, fun z hz => bounds_i64 (hwz z (List.mem_of_mem_take hz))⟩
        · have hln : (zs.take l).length = l := by rw [List.length_take]; omega
          show w.cell? (a.add (i * 3 + 1)) = some (.slice (some x) (zs.take l).length c)
          rw [hln]; exact c1
        · show (zs.take l).length ≤ c
          rw [List.length_take]; omega
        · have hl0 : 0 < zs.length := by simp at hn; omega
          have ha := plain_addr (hcell 0 hl0) rfl
          refine ⟨x.block, x.off, congrArg some ha, ?_, fun j hj => ?_⟩
          · have := block_lt_of_cell (hcell 0 hl0)
            simpa [Addr.add] using this
          · have hj' : j < l := by simp at hj; omega
            have h1 := hcell j (by omega)
            rw [ha, add_plain] at h1
            rw [h1]
            simp only [List.getD, List.getElem?_take]
            rw [if_pos hj']
    obtain ⟨ts, htl, hts⟩ := list_of len _ hp
    refine ⟨some a, len, cap, ts, rfl, htl.symm, hl, by unfold maxLen at hm; omega, fun hn => ?_, fun x hx => ?_⟩
    · have ha := plain_addr (hts 0 (by omega)).1.1 (Nat.zero_mul 3)
      refine ⟨a.block, a.off, congrArg some ha, ?_, fun i hi => ?_⟩
      · have := block_lt_of_cell (hts 0 (by omega)).1.1
        simpa [Addr.add] using this
      · have := (hts i hi).1
        rw [ha, add_plain, add_plain, add_plain] at this
        exact this
    · obtain ⟨i, hi, rfl⟩ := List.getElem_of_mem hx
      exact (hts i hi).2

theorem open_txs {t e : TypeId} {fuel : Nat} {cs : List Value} {x : DataW H × List MemPlace} (ht : P.underlying t = some (.slice e)) (he : P.underlying e = some .string) (hC : P.cellsOf e = 1) (h : DataW.trod enc P w base spare held fuel t cs = some x) :
    ∃ A n c ns, cs = [.slice A n c] ∧ n = ns.length ∧ n ≤ c ∧ c ≤ 9223372036854775807 ∧ RdN w w.heap.size A ns ∧ ∀ x ∈ ns, K.Tx x := by
  rcases open_strings ht he hC h with ⟨hcs, _⟩ | ⟨x, l, c, ss, hcs, _, hl, hm, hz, _, hcell, hsz⟩
  · exact ⟨none, 0, 0, [], hcs, rfl, Nat.le_refl _, by omega, fun h => absurd rfl h, fun x hx => by simp at hx⟩
  · have hzl : l ≤ ss.length := by rw [hz]; split <;> omega
    have hp : ∀ i, i < l → ∃ t : List Int, w.cell? (x.add i) = some (.string (K.str t)) ∧ K.Tx t := fun i hi => by
      obtain ⟨t, ht, he⟩ := K.txt (ss.getD i ByteArray.empty) (hsz _ (by rw [List.getD_eq_getElem?_getD, List.getElem?_eq_getElem (by omega)]; exact List.getElem_mem _))
      exact ⟨t, by rw [hcell i (by omega), he], ht⟩
    obtain ⟨ns, hnl, hns⟩ := list_of l _ hp
    refine ⟨some x, l, c, ns, hcs, hnl.symm, hl, by unfold maxLen at hm; omega, fun hn => ?_, fun y hy => ?_⟩
    · have ha := plain_addr (hns 0 (by omega)).1 rfl
      refine ⟨x.block, x.off, congrArg some ha, ?_, fun j hj => ?_⟩
      · have := block_lt_of_cell (hns 0 (by omega)).1
        simpa [Addr.add] using this
      · have h1 := (hns j hj).1
        rw [ha, add_plain] at h1
        exact h1
    · obtain ⟨i, hi, rfl⟩ := List.getElem_of_mem hy
      exact (hns i hi).2

theorem open_gram {r : Reach} {b0 : Nat} {t e1 e2 e3 u : TypeId} {f0 f1 f2 f3 x0 x1 x2 y0 y1 y2 : Field} {v : Value} {d : DataW H} {p : List MemPlace} (hs : P.underlying t = some (.struct #[f0, f1, f2, f3])) (hone : oneCellFields P #[f0, f1, f2, f3] = true) (hC : P.cellsOf t = 4)
    (hf0 : P.underlying f0.type = some (.slice e1)) (he1 : P.underlying e1 = some (.struct #[x0, x1, x2])) (ho1 : oneCellFields P #[x0, x1, x2] = true) (hc1 : P.cellsOf e1 = 3) (hx0 : P.underlying x0.type = some .string) (hx1 : P.underlying x1.type = some (.int .i64)) (hx2 : P.underlying x2.type = some (.int .i64))
    (hf1 : P.underlying f1.type = some (.slice e2)) (he2 : P.underlying e2 = some .string) (hc2 : P.cellsOf e2 = 1)
    (hf2 : P.underlying f2.type = some (.slice e3)) (he3 : P.underlying e3 = some (.struct #[y0, y1, y2])) (ho3 : oneCellFields P #[y0, y1, y2] = true) (hc3 : P.cellsOf e3 = 3) (hy0 : P.underlying y0.type = some (.int .i64)) (hy1 : P.underlying y1.type = some (.slice u)) (hu : P.underlying u = some (.int .i64)) (hcu : P.cellsOf u = 1) (hy2 : P.underlying y2.type = some (.int .i64))
    (hf3 : P.underlying f3.type = some (.int .i64))
    (hv : Value.okWide P w r b0 t v) (h : DataW.Trod enc P w base spare held t v d p) :
    ∃ G, RdGr w w.heap.size v G ∧ Gm.Fit G := by
  obtain ⟨v0, v1, v2, v3, y0', y1', y2', y3', n, rfl, _, _, k0, k1, k2, k3⟩ := open_agg4 hs hone hC hv h
  obtain ⟨AT, nT, cT, ts, e0, hn0, l0, m0, r0, w0⟩ := open_tms hf0 he1 ho1 hc1 hx0 hx1 hx2 k0
  obtain ⟨AR, nR, cR, rs, e2', hn2, l2, m2, r2, w2⟩ := open_rls hf2 he3 ho3 hc3 hy0 hy1 hu hcu hy2 k2
  obtain ⟨z, e3', _, w3⟩ := DataW.trod_int hf3 k3
  obtain ⟨AN, nN, cN, ns, e1', hn1, l1, m1, r1, w1⟩ := open_txs hf1 he2 hc2 k1
  injection e0 with e0; injection e1' with e1'; injection e2' with e2'; injection e3' with e3'
  subst e0 e1' e2' e3' hn0 hn1 hn2
  exact ⟨⟨ts, ns, rs, z⟩, ⟨AT, cT, AN, cN, AR, cR, rfl, ⟨l0, m0⟩, ⟨l1, m1⟩, ⟨l2, m2⟩, r0, r1, r2⟩, ⟨w0, w1, w2, bounds_i64 w3⟩⟩
end
end Go.Proofs.Ythjohhcgegcmhaa

namespace Go.Proofs.Ythjohhcgegcmhaa.RowKit
open Go.ChangeShapes Go.WideShapes Go.ChangeAt Go.RowKit

theorem own : ownKnob Try.prog.godebug = none := by kernel_rfl
theorem laidOut : laidOutB Try.prog = true := by kernel_rfl
end Go.Proofs.Ythjohhcgegcmhaa.RowKit
