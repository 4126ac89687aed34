/- Part of the proofs over this program: Alive11, WalkReduces, WalkOnce, GramOpen, RowKit. -/
import Derived.Deep.Slices
import Derived.Deep.Fields
import Derived.ChangeSame
import Derived.Lib.SmallJoins
import Derived.SliceStrings
import Derived.Test.YtfiijndmlmddbaaGreatRows
import Derived.SizedLaws
import Derived.LaidMore
import Derived.Stop.Joined
import Derived.ShutString
import Derived.ChangeOld
import Derived.Test.YtfiijndmlmddbaaGreatMK
namespace Go.Proofs.YtfiijndmlmddbaaGreat
set_option maxRecDepth 100000
open Go.RowKit

theorem bools_same (A A' : Option Addr) (ca cb : Nat) (xs : List Bool) (w : World) (hra : RdO w w.heap.size A xs) (hrb : RdO w w.heap.size A' xs) (hxl : xs.length ≤ 9223372036854775807) :
    Calls Tryz.prog 9 #[.slice A xs.length ca, .slice A' xs.length cb] w fun e w' => e = .returned (.bool true) ∧ ∃ n, w' = w.drewN n :=
  (bools_any A A' ca cb xs xs w hra hrb hxl hxl).mono fun e w' h => ⟨by rw [h.1, decide_eq_true rfl], h.2⟩
theorem ints_same (A A' : Option Addr) (ca cb : Nat) (xs : List Int) (w : World) (hra : RdI w w.heap.size A xs) (hrb : RdI w w.heap.size A' xs) (hxl : xs.length ≤ 9223372036854775807) :
    Calls Tryz.prog 22 #[.slice A xs.length ca, .slice A' xs.length cb] w fun e w' => e = .returned (.bool true) ∧ ∃ n, w' = w.drewN n :=
  (ints_any A A' ca cb xs xs w hra hrb hxl hxl).mono fun e w' h => ⟨by rw [h.1, decide_eq_true rfl], h.2⟩
theorem gr0_fit : Gm.Fit Gm.gr0 := ⟨by simp [Gm.gr0], by simp [Gm.gr0], by simp [Gm.gr0], by unfold Gm.In; simp [Gm.gr0]⟩
set_option maxHeartbeats 8000000 in
theorem alive11_any (w : World) : Calls Tryz.prog 7 #[] w fun e w' => e = .returned (.bool true) ∧ Below w.heap.size w w' := by
  have T1 := hide (gread_const et11a gt11a (by decide) (by decide) gre11a w w.heap.size rfl)
  have T2 := hide (fun (w1 : World) (n : Nat) (hw : n = w1.heap.size) => gread_const et11b gt11b (by decide) (by decide) gre11b w1 n hw)
  have V1 := hide (fun w : World => show (convert 47 47 (.slice (some ⟨w.heap.size, 0, none⟩) 46 46)).run Tryz.prog (w.alloc (.cells #[.int .u8 37, .int .u8 37, .int .u8 32, .int .u8 115, .int .u8 32, .int .u8 58, .int .u8 32, .int .u8 39, .int .u8 97, .int .u8 39, .int .u8 32, .int .u8 117, .int .u8 32, .int .u8 124, .int .u8 32, .int .u8 39, .int .u8 98, .int .u8 39, .int .u8 32, .int .u8 124, .int .u8 32, .int .u8 59, .int .u8 32, .int .u8 117, .int .u8 32, .int .u8 58, .int .u8 32, .int .u8 117, .int .u8 32, .int .u8 39, .int .u8 99, .int .u8 39, .int .u8 32, .int .u8 59, .int .u8 32, .int .u8 118, .int .u8 32, .int .u8 58, .int .u8 32, .int .u8 39, .int .u8 100, .int .u8 39, .int .u8 32, .int .u8 115, .int .u8 32, .int .u8 59] 5)) = .ok (.slice (some ⟨w.heap.size, 0, none⟩) 46 46) (w.alloc (cellsM et11a)) from lit_conv w et11a 46 46)
  have V2 := hide (fun w : World => show (convert 47 47 (.slice (some ⟨w.heap.size, 0, none⟩) 22 22)).run Tryz.prog (w.alloc (.cells #[.int .u8 37, .int .u8 37, .int .u8 32, .int .u8 115, .int .u8 32, .int .u8 58, .int .u8 32, .int .u8 117, .int .u8 32, .int .u8 59, .int .u8 32, .int .u8 117, .int .u8 32, .int .u8 58, .int .u8 32, .int .u8 117, .int .u8 32, .int .u8 39, .int .u8 97, .int .u8 39, .int .u8 32, .int .u8 59] 5)) = .ok (.slice (some ⟨w.heap.size, 0, none⟩) 22 22) (w.alloc (cellsM et11b)) from lit_conv w et11b 22 22)
  have U1 := V1.out w
  have hbg := fun w => build_gr11 w
  have hs1 : ∀ (x : World) (o : Obj), (x.alloc o).heap.size = x.heap.size + 1 := fun x o => by simp
  have hl1 : et11a.length = 46 := rfl
  have hl2 : et11b.length = 22 := rfl
  rw [hl1] at T1
  rw [hl2] at T2
  clear V1 hl1 hl2
  go_enter Tryz.func7, Tryz.ntmps7
  go_wp2_with fail
  refine T1.out.mono ?_; rintro _ w1 ⟨⟨g, rfl, hg1, hft1⟩, hb1⟩
  have HB1 := hide hb1
  have HR1 := hide (fun (x : World) (h : Below w1.heap.size w1 x) => tReduce_any g gt11a w1.heap.size x (hg1.below h (Nat.le_refl _)) hft1 h.size)
  have HI1 := hide (fun (x : World) (h : Below w1.heap.size w1 x) => tIs_any g gt11a w1.heap.size x (hg1.below h (Nat.le_refl _)) hft1 h.size)
  have HN1 := hide (fun (x : World) (h : Below w1.heap.size w1 x) => (show Calls _ _ _ _ (RowT _ _) from (nullable_any g gt11a w1.heap.size x (hg1.below h (Nat.le_refl _)) hft1 h.size).mono fun e w' k => k.1 right11a))
  have HP1 := hide (fun (x : World) (h : Below w1.heap.size w1 x) => (show Calls _ _ _ _ (RowT _ _) from (productive_any g gt11a w1.heap.size x (hg1.below h (Nat.le_refl _)) hft1 h.size).mono fun e w' k => k.1 right11a))
  have HC1 := hide (fun (x : World) (h : Below w1.heap.size w1 x) => (show Calls _ _ _ _ (RowT _ _) from (reachable_any g gt11a w1.heap.size x (hg1.below h (Nat.le_refl _)) hft1 h.size).mono fun e w' k => k.1 right11a))
  rw [nul11a] at HN1
  rw [pro11a] at HP1
  rw [rea11a] at HC1
  rw [not11a] at HI1
  unfold RedAns at HR1
  rw [rdL11a, rdE11a] at HR1
  have HF1 := hide hft1
  obtain ⟨AT1, cT1, AN1, cN1, AR1, cR1, rfl, _, _, _, _, _, _⟩ := hg1
  have HQ1 := hide (One.start w1 #[.slice AT1 gt11a.ts.length cT1, .slice AN1 gt11a.ns.length cN1, .slice AR1 gt11a.rs.length cR1, .int .i64 gt11a.st])
  have HY1 := hide (fun (x : World) (h : One w1 #[.slice AT1 gt11a.ts.length cT1, .slice AN1 gt11a.ns.length cN1, .slice AR1 gt11a.rs.length cR1, .int .i64 gt11a.st] x) => And.intro (h.c 0 _ rfl) (And.intro (h.c 1 _ rfl) (And.intro (h.c 2 _ rfl) (h.c 3 _ rfl))))
  have HBF := hide (fun (x : World) (h : One w1 #[.slice AT1 gt11a.ts.length cT1, .slice AN1 gt11a.ns.length cN1, .slice AR1 gt11a.rs.length cR1, .int .i64 gt11a.st] x) => hb1.trans (h.below.mono hb1.size))
  clear hb1 U1 T1 hft1
  go_wp2_with fail
  refine (HR1.out _ HQ1.out.below).mono ?_; rintro _ w2 ⟨g2, A2, c2, rfl, hg2, hr2, hb2⟩
  have HB2 := hide (HQ1.out.on hb2)
  have HI2 := hide (fun (x : World) (h : Below w2.heap.size w2 x) => tIs_any g2 (Gm.rdG gt11a) w2.heap.size x (hg2.below h (Nat.le_refl _)) (Gm.rdG_fit HF1.out) h.size)
  rw [is11a] at HI2
  have HR2 := hide hr2
  obtain ⟨B0, d0, B1, d1, B2, d2, rfl, _⟩ := hg2
  rw [len11a.1, len11a.2.1, len11a.2.2] at HI2 ⊢
  have HQ2 := hide (One.start w2 #[.slice B0 4 d0, .slice B1 1 d1, .slice B2 2 d2, .int .i64 (Gm.rdG gt11a).st])
  have HY2 := hide (fun (x : World) (h : One w2 #[.slice B0 4 d0, .slice B1 1 d1, .slice B2 2 d2, .int .i64 (Gm.rdG gt11a).st] x) => And.intro (h.c 0 _ rfl) (And.intro (h.c 1 _ rfl) (And.intro (h.c 2 _ rfl) (h.c 3 _ rfl))))
  generalize (Gm.rdG gt11a).st = st2 at *
  clear hb2 hr2 HR1
  have U2 := fun (o : Obj) => V2.out (w2.alloc o)
  simp only [hs1] at U2
  clear V2
  go_wp2_with fail
  refine (T2.out _ _ (hs1 _ _).symm).mono ?_; rintro _ w3 ⟨⟨g3, rfl, hg3, hft3⟩, hb3⟩
  have HB3 := hide (HQ2.out.on hb3)
  have HR3 := hide (fun (x : World) (h : Below w3.heap.size w3 x) => tReduce_any g3 gt11b w3.heap.size x (hg3.below h (Nat.le_refl _)) hft3 h.size)
  unfold RedAns at HR3
  rw [rdE11b] at HR3
  obtain ⟨AT3, cT3, AN3, cN3, AR3, cR3, rfl, _, _, _, _, _, _⟩ := hg3
  have HQ3 := hide (One.start w3 #[.slice AT3 gt11b.ts.length cT3, .slice AN3 gt11b.ns.length cN3, .slice AR3 gt11b.rs.length cR3, .int .i64 gt11b.st])
  clear U2 hb3 T2 hft3
  go_wp2_with fail
  refine (HR3.out _ HQ3.out.below).mono ?_; rintro _ w4 ⟨g4, A4, c4, rfl, hg4, hr4, hb4⟩
  have HB4 := hide (HB3.out.on (HQ3.out.on hb4).below)
  obtain ⟨C0, f0, C1, f1, C2, f2, rfl, _⟩ := hg4
  have HR5 := hide (fun (x : World) => tReduce_any _ Gm.gr0 x.heap.size x (gr0_rd x _) gr0_fit (Nat.le_refl _))
  unfold RedAns at HR5
  rw [rdE11c] at HR5
  clear hb4 hr4 HR3
  go_wp2_with fail
  refine (HR5.out _).mono ?_; rintro _ w5 ⟨g5, A5, c5, rfl, hg5, hr5, hb5⟩
  have HB5 := hide ((HB4.out.alloc _).on hb5)
  obtain ⟨D0, h0, D1, h1, D2, h2, rfl, _⟩ := hg5
  clear hb5 hr5 HR5
  have HW5 := hide (HB5.out.alloc (.cells #[.slice D0 (Gm.rdG Gm.gr0).ts.length h0, .slice D1 (Gm.rdG Gm.gr0).ns.length h1, .slice D2 (Gm.rdG Gm.gr0).rs.length h2, .int .i64 (Gm.rdG Gm.gr0).st] 26))
  obtain ⟨w6, hw6⟩ : ∃ x, x = w5.alloc (.cells #[.slice D0 (Gm.rdG Gm.gr0).ts.length h0, .slice D1 (Gm.rdG Gm.gr0).ns.length h1, .slice D2 (Gm.rdG Gm.gr0).rs.length h2, .int .i64 (Gm.rdG Gm.gr0).st] 26) := ⟨_, rfl⟩
  go_upto_region 6 with fail
  rw [← hw6] at HW5 ⊢
  clear hw6
  have HK1 : Hid (One w1 #[.slice AT1 gt11a.ts.length cT1, .slice AN1 gt11a.ns.length cN1, .slice AR1 gt11a.rs.length cR1, .int .i64 gt11a.st] w6) := hide (HB2.out.on HW5.out.below)
  have l1 : w1.heap.size < w6.heap.size := HK1.out.size
  have l2 : w2.heap.size < w6.heap.size := HW5.out.size
  have y0 := (HY2.out w6 HW5.out).1
  have y1 := (HY2.out w6 HW5.out).2.1
  have y2 := (HY2.out w6 HW5.out).2.2.1
  have HRK := hide ((HR2.out.below HW5.out.below (Nat.le_refl _)).more HW5.out.below.size)
  have HLI := hide (fun (x : World) (h : RdI x x.heap.size A2 [1, 2]) => (show Calls Tryz.prog 22 #[.slice A2 2 c2, .slice (some ⟨x.heap.size, 0, none⟩) 2 2] (x.alloc (.cells #[.int .i64 1, .int .i64 2] 3)) _ from ints_same A2 (some ⟨x.heap.size, 0, none⟩) c2 2 [1, 2] (x.alloc (cellsI [1, 2])) ((h.alloc (Nat.le_refl _) _).more (by simp)) (litI1 x [1, 2]).1 (by decide)))
  clear HB1 HB2 HB3 HB4 HB5 HQ1 HQ2 HQ3 HF1 HR2
  go_wp2_with fail
  refine (HLI.out w6 HRK.out).mono ?_; rintro _ w7 ⟨rfl, n7, hw7⟩
  have HK7 : Hid (One w1 #[.slice AT1 gt11a.ts.length cT1, .slice AN1 gt11a.ns.length cN1, .slice AR1 gt11a.rs.length cR1, .int .i64 gt11a.st] w7) := hide (by rw [hw7]; exact (HK1.out.alloc _).drewN _)
  have HW7 : Hid (One w2 #[.slice B0 4 d0, .slice B1 1 d1, .slice B2 2 d2, .int .i64 st2] w7) := hide (by rw [hw7]; exact (HW5.out.alloc _).drewN _)
  clear hw7 HLI HRK y0 y1 y2 l1 l2
  obtain ⟨x0, x1, x2, x3⟩ := HY1.out w7 HK7.out
  have l1 : w1.heap.size < w7.heap.size := HK7.out.size
  go_wp2_with fail
  refine (HN1.out w7 HK7.out.below).mono ?_; rintro _ w8 ⟨q8, rfl, hq8, hu8, hb8⟩
  have HK8 := hide (HK7.out.on hb8)
  have HW8 := hide (HW7.out.on hb8)
  have HBO8 := hide (show Calls Tryz.prog 9 #[.slice (some ⟨q8, 0, none⟩) 3 3, .slice (some ⟨w8.heap.size, 0, none⟩) 3 3] (w8.alloc (.cells #[.bool true, .bool false, .bool false] 4)) _ from bools_same (some ⟨q8, 0, none⟩) (some ⟨w8.heap.size, 0, none⟩) 3 3 [true, false, false] (w8.alloc (cellsO [true, false, false])) (((hu8.rd0 hu8.lt).alloc (Nat.le_refl _) _).more (by simp)) (litO1 w8 [true, false, false]).1 (by decide))
  clear x0 x1 x2 x3 l1 hq8 hu8 hb8 HN1
  go_wp2_with fail
  refine HBO8.out.mono ?_; rintro _ w9 ⟨rfl, n9, hw9⟩
  have HK9 : Hid (One w1 #[.slice AT1 gt11a.ts.length cT1, .slice AN1 gt11a.ns.length cN1, .slice AR1 gt11a.rs.length cR1, .int .i64 gt11a.st] w9) := hide (by rw [hw9]; exact (HK8.out.alloc _).drewN _)
  have HW9 : Hid (One w2 #[.slice B0 4 d0, .slice B1 1 d1, .slice B2 2 d2, .int .i64 st2] w9) := hide (by rw [hw9]; exact (HW8.out.alloc _).drewN _)
  clear hw9 HBO8
  obtain ⟨x0, x1, x2, x3⟩ := HY1.out w9 HK9.out
  have l1 : w1.heap.size < w9.heap.size := HK9.out.size
  go_wp2_with fail
  refine (HP1.out w9 HK9.out.below).mono ?_; rintro _ w10 ⟨q10, rfl, hq10, hu10, hb10⟩
  have HK10 := hide (HK9.out.on hb10)
  have HW10 := hide (HW9.out.on hb10)
  have HBO10 := hide (show Calls Tryz.prog 9 #[.slice (some ⟨q10, 0, none⟩) 3 3, .slice (some ⟨w10.heap.size, 0, none⟩) 3 3] (w10.alloc (.cells #[.bool true, .bool false, .bool true] 4)) _ from bools_same (some ⟨q10, 0, none⟩) (some ⟨w10.heap.size, 0, none⟩) 3 3 [true, false, true] (w10.alloc (cellsO [true, false, true])) (((hu10.rd0 hu10.lt).alloc (Nat.le_refl _) _).more (by simp)) (litO1 w10 [true, false, true]).1 (by decide))
  clear x0 x1 x2 x3 l1 hq10 hu10 hb10 HP1
  go_wp2_with fail
  refine HBO10.out.mono ?_; rintro _ w11 ⟨rfl, n11, hw11⟩
  have HK11 : Hid (One w1 #[.slice AT1 gt11a.ts.length cT1, .slice AN1 gt11a.ns.length cN1, .slice AR1 gt11a.rs.length cR1, .int .i64 gt11a.st] w11) := hide (by rw [hw11]; exact (HK10.out.alloc _).drewN _)
  have HW11 : Hid (One w2 #[.slice B0 4 d0, .slice B1 1 d1, .slice B2 2 d2, .int .i64 st2] w11) := hide (by rw [hw11]; exact (HW10.out.alloc _).drewN _)
  clear hw11 HBO10
  obtain ⟨x0, x1, x2, x3⟩ := HY1.out w11 HK11.out
  have l1 : w1.heap.size < w11.heap.size := HK11.out.size
  go_wp2_with fail
  refine (HC1.out w11 HK11.out.below).mono ?_; rintro _ w12 ⟨q12, rfl, hq12, hu12, hb12⟩
  have HK12 := hide (HK11.out.on hb12)
  have HW12 := hide (HW11.out.on hb12)
  have HBO12 := hide (show Calls Tryz.prog 9 #[.slice (some ⟨q12, 0, none⟩) 3 3, .slice (some ⟨w12.heap.size, 0, none⟩) 3 3] (w12.alloc (.cells #[.bool true, .bool false, .bool false] 4)) _ from bools_same (some ⟨q12, 0, none⟩) (some ⟨w12.heap.size, 0, none⟩) 3 3 [true, false, false] (w12.alloc (cellsO [true, false, false])) (((hu12.rd0 hu12.lt).alloc (Nat.le_refl _) _).more (by simp)) (litO1 w12 [true, false, false]).1 (by decide))
  clear x0 x1 x2 x3 l1 hq12 hu12 hb12 HC1
  go_wp2_with fail
  refine HBO12.out.mono ?_; rintro _ w13 ⟨rfl, n13, hw13⟩
  have HK13 : Hid (One w1 #[.slice AT1 gt11a.ts.length cT1, .slice AN1 gt11a.ns.length cN1, .slice AR1 gt11a.rs.length cR1, .int .i64 gt11a.st] w13) := hide (by rw [hw13]; exact (HK12.out.alloc _).drewN _)
  have HW13 : Hid (One w2 #[.slice B0 4 d0, .slice B1 1 d1, .slice B2 2 d2, .int .i64 st2] w13) := hide (by rw [hw13]; exact (HW12.out.alloc _).drewN _)
  clear hw13 HBO12
  obtain ⟨x0, x1, x2, x3⟩ := HY2.out w13 HW13.out
  have l1 : w2.heap.size < w13.heap.size := HW13.out.size
  go_wp2_with fail
  refine (HI2.out w13 HW13.out.below).mono ?_; rintro _ w20 ⟨rfl, hb20⟩
  have HK20 := hide (HK13.out.on hb20)
  clear x0 x1 x2 x3 l1 hb20 HI2
  obtain ⟨x0, x1, x2, x3⟩ := HY1.out w20 HK20.out
  have l1 : w1.heap.size < w20.heap.size := HK20.out.size
  go_wp2_with fail
  refine (HI1.out w20 HK20.out.below).mono ?_; rintro _ w21 ⟨rfl, hb21⟩
  have HK21 := hide (HK20.out.on hb21)
  clear x0 x1 x2 x3 l1 hb21 HI1
  go_wp2
  go_ret
  exact ⟨rfl, HBF.out _ HK21.out⟩
end Go.Proofs.YtfiijndmlmddbaaGreat

namespace Go.Proofs.YtfiijndmlmddbaaGreat
set_option maxRecDepth 100000
open Go.RowKit

theorem not_great11 {G : Gm.Gr} (h : Gm.great G = false) : G.ts.length ≤ 40 ∧ G.ns.length ≤ 40 ∧ G.rs.length ≤ 60 ∧ ∀ r ∈ G.rs, r.r.length ≤ 20 := by
  unfold Gm.great at h
  simp only [Bool.or_eq_false_iff, decide_eq_false_iff_not, List.any_eq_false, decide_eq_true_eq] at h
  obtain ⟨⟨⟨h1, h2⟩, h3⟩, h4⟩ := h
  exact ⟨by omega, by omega, by omega, fun r hr => by have := h4 r hr; omega⟩
theorem Gm.rdL_len (G : Gm.Gr) : (Gm.rdL G).length ≤ G.rs.length := by
  unfold Gm.rdL
  split
  · exact Gm.kl_len G _
  · simp
end Go.Proofs.YtfiijndmlmddbaaGreat

namespace Go.Proofs.YtfiijndmlmddbaaGreat
set_option maxRecDepth 100000
open Go.RowKit

/-- A grammar that is reduced: what is said of it. -/
structure Gm.Rdd (G : Gm.Gr) : Prop where
  e : Gm.rdE G = 0
  ok : Gm.Ok G
  p : Gm.Gn true G.rs G.st
  g : Gm.rdG G = Gm.reduce G
  l : Gm.rdL G = Gm.kl G G.rs.length
theorem Gm.Rdd.of {G : Gm.Gr} (h : Gm.rdE G = 0) : Gm.Rdd G := by
  have hr : Gm.right G = true := by
    cases q : Gm.right G
    · rw [Gm.rdE_no q] at h; cases h
    · rfl
  have hp : Gm.Gn true G.rs G.st := by
    cases q : Gm.tr (Gm.Gn true G.rs G.st)
    · rw [Gm.rdE_empty hr q] at h; cases h
    · exact Gm.tr_iff.1 q
  exact ⟨h, Gm.right_ok.1 hr, hp, by unfold Gm.rdG; rw [if_pos h], by unfold Gm.rdL; rw [if_pos h]⟩
theorem Gm.Rdd.red {G : Gm.Gr} (h : Gm.Rdd G) : Gm.Rdd (Gm.rdG G) := by
  have hok2 := Gm.red_ok h.ok h.p
  have hp2 : Gm.Gn true (Gm.reduce G).rs (Gm.reduce G).st := by
    have := (Gm.red_all (G := G) (i := (Gm.reduce G).st.toNat) (by have := hok2.s0; have := hok2.s1; omega)).1
    rwa [Int.toNat_of_nonneg hok2.s0] at this
  rw [h.g]
  exact Gm.Rdd.of (Gm.rdE_ok (Gm.right_ok.2 hok2) (Gm.tr_iff.2 hp2))
theorem Gm.Rdd.again {G : Gm.Gr} (h : Gm.Rdd G) : Gm.rdG (Gm.rdG G) = Gm.rdG G := by rw [h.red.g, h.g, Gm.red_red h.p]
theorem Gm.Rdd.kept {G : Gm.Gr} (h : Gm.Rdd G) : Gm.rdL (Gm.rdG G) = Gm.ups (Gm.rdG G).rs.length := by
  rw [h.red.l, Gm.kl_all, h.g, Gm.red_kept]; rfl
theorem Gm.Rdd.len {G : Gm.Gr} (h : Gm.Rdd G) : (Gm.rdL G).length = (Gm.rdG G).rs.length := by
  rw [h.l, h.g, Gm.kl_krs]; unfold Gm.reduce; rw [List.length_map]
theorem Gm.Rdd.prod {G : Gm.Gr} (h : Gm.Rdd G) : Gm.gn true (Gm.rdG G).rs (Gm.rdG G).ns.length = List.replicate (Gm.rdG G).ns.length true := by
  refine List.ext_getElem (by simp [Gm.gn_len]) fun i h1 h2 => ?_
  have hi : i < (Gm.rdG G).ns.length := by simpa [Gm.gn_len] using h1
  have e : (Gm.gn true (Gm.rdG G).rs (Gm.rdG G).ns.length).getD i false = true := by
    rw [Gm.gn_at _ _ _ _ hi, Gm.tr_iff]
    rw [h.g] at hi ⊢
    exact (Gm.red_all hi).1
  rw [List.getD_eq_getElem?_getD, List.getElem?_eq_getElem h1, Option.getD_some] at e
  rw [e]; simp
theorem Gm.Rdd.reach {G : Gm.Gr} (h : Gm.Rdd G) : Gm.rc (Gm.rdG G) = List.replicate (Gm.rdG G).ns.length true := by
  refine List.ext_getElem (by simp [Gm.rc_len]) fun i h1 h2 => ?_
  have hi : i < (Gm.rdG G).ns.length := by simpa [Gm.rc_len] using h1
  have e : (Gm.rc (Gm.rdG G)).getD i false = true := by
    rw [Gm.rc_at _ _ hi, Gm.tr_iff]
    rw [h.g] at hi ⊢
    exact (Gm.red_all hi).2
  rw [List.getD_eq_getElem?_getD, List.getElem?_eq_getElem h1, Option.getD_some] at e
  rw [e]; simp
/-- What is left at place i. -/
structure Gm.At (G : Gm.Gr) (i q : Nat) : Prop where
  hq : q < G.rs.length
  hi : i < (Gm.rdG G).rs.length
  r : (Gm.rdG G).rs[i] = Gm.re (Gm.olds G) G.rs[q]
  k : G.rs[q] ∈ Gm.krs G
theorem Gm.Rdd.at {G : Gm.Gr} (h : Gm.Rdd G) {i : Nat} (hi : i < (Gm.rdL G).length) : ∃ q : Nat, (Gm.rdL G)[i] = (q : Int) ∧ Gm.At G i q := by
  have e := h.l
  obtain ⟨q, h1, hq, hk, hkr⟩ := Gm.kl_at (G := G) (k := i) (by rw [← e]; exact hi)
  have hi2 : i < (Gm.rdG G).rs.length := by rw [← h.len]; exact hi
  refine ⟨q, by simp only [e]; exact h1, hq, hi2, ?_, by rw [← hkr]; exact List.getElem_mem hk⟩
  have : (Gm.rdG G).rs[i]? = some (Gm.re (Gm.olds G) G.rs[q]) := by
    rw [h.g]; unfold Gm.reduce
    rw [List.getElem?_map, List.getElem?_eq_getElem hk, hkr]; rfl
  rw [List.getElem?_eq_getElem hi2] at this
  exact Option.some.inj this
theorem Gm.Rdd.up {G : Gm.Gr} (h : Gm.Rdd G) {i : Nat} (hi : i + 1 < (Gm.rdL G).length) : (Gm.rdL G)[i] < (Gm.rdL G)[i + 1] := by
  have hu := Gm.kept_up G
  have e : Gm.rdL G = (Gm.kept G).map fun j : Nat => (j : Int) := by rw [h.l, Gm.kl_all]
  have hl : (Gm.rdL G).length = (Gm.kept G).length := by rw [e, List.length_map]
  have h1 := List.pairwise_iff_getElem.1 hu i (i + 1) (by omega) (by omega) (by omega)
  simp only [e, List.getElem_map]
  omega
/-- The name of a rule's Left is kept. -/
theorem Gm.Rdd.left {G : Gm.Gr} (h : Gm.Rdd G) {i q : Nat} (a : Gm.At G i q) : (Gm.rdG G).ns.getD ((Gm.rdG G).rs[i]'a.hi).l.toNat [] = G.ns.getD (G.rs[q]'a.hq).l.toNat [] := by
  rw [a.r, h.g]
  exact Gm.red_non h.ok (Gm.use_left a.k)
theorem Gm.Rdd.start {G : Gm.Gr} (h : Gm.Rdd G) : (Gm.rdG G).ns.getD (Gm.rdG G).st.toNat [] = G.ns.getD G.st.toNat [] := by
  rw [h.g]
  exact Gm.red_non h.ok (Gm.st_in h.p)
theorem Gm.Rdd.sym {G : Gm.Gr} (h : Gm.Rdd G) {q : Nat} (hq : q < G.rs.length) (hk : G.rs[q] ∈ Gm.krs G) {z : Int} (hz : z ∈ G.rs[q].r) : Gm.name (Gm.rdG G) (Gm.re1 (Gm.olds G) z) = Gm.name G z := by
  rw [h.g]
  exact Gm.red_sym h.ok hk hz
theorem Gm.Rdd.all {G RG : Gm.Gr} {L : List Int} (h : Gm.Rdd G) (hR : RG = Gm.rdG G) (hL : L = Gm.rdL G) {i : Nat} (hi : i < L.length) (hi2 : i < RG.rs.length) : ∃ q : Nat, L.getD i 0 = (q : Int) ∧ ∃ hq : q < G.rs.length, RG.rs[i] = Gm.re (Gm.olds G) G.rs[q] ∧ RG.ns.getD (RG.rs[i]).l.toNat [] = G.ns.getD (G.rs[q]).l.toNat [] ∧ ∀ z ∈ G.rs[q].r, Gm.name RG (Gm.re1 (Gm.olds G) z) = Gm.name G z := by
  subst hR hL
  obtain ⟨q, h1, a⟩ := h.at hi
  exact ⟨q, by rw [L.gd_lt hi]; exact h1, a.hq, a.r, h.left a, fun z hz => h.sym a.hq a.k hz⟩
theorem Gm.Rdd.ups {G : Gm.Gr} {L : List Int} (h : Gm.Rdd G) (hL : L = Gm.rdL G) {i : Nat} (hi : i + 1 < L.length) : L.getD i 0 < L.getD (i + 1) 0 := by
  subst hL
  rw [L.gd_lt hi, L.gd_lt (by omega)]
  exact h.up hi
theorem L_gd {l : List Int} {k : Nat} (h : k < l.length) : l.getD k 0 = l[k] := L.gd_lt h
set_option maxHeartbeats 32000000 in
theorem trimOnce_walk (v : Value) (G : Gm.Gr) (w : World) (hg : RdGr w w.heap.size v G) (hf : Gm.Fit G) :
    Calls Tryz.prog 5 #[v] w fun e w' => e = .returned (.bool true) ∧ Below w.heap.size w w' := by
  have HGG := hide (fun (x : World) (h : Below w.heap.size w x) => hg.below h (Nat.le_refl _))
  have HAL := hide (fun (x : World) => alive11_any x)
  have TG := hide (fun (x : World) (h : Below w.heap.size w x) => great9_any v G w.heap.size x (HGG.out x h) h.size)
  have TR := hide (fun (x : World) (h : Below w.heap.size w x) => tReduce_any v G w.heap.size x (HGG.out x h) hf h.size)
  have HFT := hide hf
  have hgreat : Gm.great G = false → G.rs.length ≤ 60 := fun hh => (not_great11 hh).2.2.1
  have HGR := hide hgreat
  obtain ⟨A0, c0, A1, c1, A2, c2, rfl, _, _, ⟨_, hc2m⟩, _, hNg, hRg⟩ := hg
  have HNg := hide hNg
  have HRg := hide hRg
  clear hNg hRg
  have HQ0 := hide (One.start w #[.slice A0 G.ts.length c0, .slice A1 G.ns.length c1, .slice A2 G.rs.length c2, .int .i64 G.st])
  have HXC := hide (fun (x : World) (h : One w #[.slice A0 G.ts.length c0, .slice A1 G.ns.length c1, .slice A2 G.rs.length c2, .int .i64 G.st] x) => And.intro (h.c 0 _ rfl) (And.intro (h.c 1 _ rfl) (And.intro (h.c 2 _ rfl) (h.c 3 _ rfl))))
  clear hf hgreat
  go_enter Tryz.func5, Tryz.ntmps5
  go_wp2_with fail
  refine (HAL.out _).mono ?_; rintro _ w1 ⟨rfl, hb1⟩
  have HQ1 := hide (HQ0.out.on hb1)
  obtain ⟨x0, x1, x2, x3⟩ := HXC.out w1 HQ1.out
  clear hb1
  cases hgr : Gm.great G with
  | true =>
    rw [hgr] at TG
    clear TR
    go_wp2_with fail
    refine (TG.out _ HQ1.out.below).mono ?_; rintro _ w2 ⟨rfl, hb2⟩
    have HQ2 := hide (HQ1.out.on hb2)
    clear hb2
    go_wp2
    go_ret
    exact ⟨rfl, HQ2.out.below⟩
  | false =>
    have hr60 := HGR.out hgr
    have HR60 := hide hr60
    rw [hgr] at TG
    go_wp2_with fail
    refine (TG.out _ HQ1.out.below).mono ?_; rintro _ w2 ⟨rfl, hb2⟩
    have HQ2 := hide (HQ1.out.on hb2)
    clear x0 x1 x2 x3 hb2 hgr TG hr60
    obtain ⟨x0, x1, x2, x3⟩ := HXC.out w2 HQ2.out
    have lw2 : w.heap.size < w2.heap.size := HQ2.out.size
    unfold RedAns at TR
    by_cases he : Gm.rdE G = 0
    case neg =>
      have hL : Gm.rdL G = [] := by unfold Gm.rdL; rw [if_neg he]
      have hG : Gm.rdG G = Gm.gr0 := by unfold Gm.rdG; rw [if_neg he]
      rw [hL, hG] at TR
      have hne : (Gm.rdE G != 0) = true := by simpa using he
      generalize Gm.rdE G = er at *
      clear hL hG he
      go_wp2_with fail
      refine (TR.out _ HQ2.out.below).mono ?_; rintro _ w3 ⟨g3, A3, e3, rfl, hg3, hr3, hb3⟩
      have HQ3 := hide (HQ2.out.on hb3)
      obtain ⟨C0, f0, C1, f1, C2, f2, rfl, _⟩ := hg3
      have HQ4 := hide (HQ3.out.alloc (.cells #[.slice C0 Gm.gr0.ts.length f0, .slice C1 Gm.gr0.ns.length f1, .slice C2 Gm.gr0.rs.length f2, .int .i64 Gm.gr0.st] 26))
      have hl0 : Gm.gr0.rs.length = 0 := rfl
      clear x0 x1 x2 x3 hr3 hb3 TR
      go_wp2
      go_ret
      exact ⟨rfl, HQ4.out.below⟩
    case pos =>
      have hrd := Gm.Rdd.of he
      have HRD := hide hrd
      have hne : (Gm.rdE G != 0) = false := by simpa using he
      rw [he] at TR
      have TR2 := hide (fun (z x : World) (u : Value) (hu : RdGr z z.heap.size u (Gm.rdG G)) (h : Below z.heap.size z x) => tReduce_any u (Gm.rdG G) z.heap.size x (hu.below h (Nat.le_refl _)) (Gm.rdG_fit HFT.out) h.size)
      unfold RedAns at TR2
      rw [hrd.red.e, hrd.again, hrd.kept] at TR2
      have TRT := hide (fun (z x : World) (u : Value) (hu : RdGr z z.heap.size u (Gm.rdG G)) (h : Below z.heap.size z x) => rright_any u (Gm.rdG G) z.heap.size x (hu.below h (Nat.le_refl _)) (Gm.rdG_fit HFT.out) h.size)
      rw [Gm.right_ok.2 hrd.red.ok] at TRT
      have TS := hide (fun (z y x : World) (u u' : Value) (hu : RdGr z z.heap.size u (Gm.rdG G)) (hu' : RdGr y y.heap.size u' (Gm.rdG G)) (h : Below z.heap.size z x) (h' : Below y.heap.size y x) => rsame_any u u' (Gm.rdG G) (Gm.rdG G) z.heap.size y.heap.size x (hu.below h (Nat.le_refl _)) (hu'.below h' (Nat.le_refl _)) (Gm.rdG_fit HFT.out) (Gm.rdG_fit HFT.out) h.size h'.size)
      rw [Gm.same_self] at TS
      have TI := hide (fun (z x : World) (u : Value) (hu : RdGr z z.heap.size u (Gm.rdG G)) (h : Below z.heap.size z x) => tIs_any u (Gm.rdG G) z.heap.size x (hu.below h (Nat.le_refl _)) (Gm.rdG_fit HFT.out) h.size)
      rw [Gm.isB_red he] at TI
      have TP := hide (fun (z x : World) (u : Value) (hu : RdGr z z.heap.size u (Gm.rdG G)) (h : Below z.heap.size z x) => (show Calls _ _ _ _ (RowT _ _) from (productive_any u (Gm.rdG G) z.heap.size x (hu.below h (Nat.le_refl _)) (Gm.rdG_fit HFT.out) h.size).mono fun e w' k => k.1 (Gm.right_ok.2 hrd.red.ok)))
      rw [hrd.prod] at TP
      have TQ := hide (fun (z x : World) (u : Value) (hu : RdGr z z.heap.size u (Gm.rdG G)) (h : Below z.heap.size z x) => (show Calls _ _ _ _ (RowT _ _) from (reachable_any u (Gm.rdG G) z.heap.size x (hu.below h (Nat.le_refl _)) (Gm.rdG_fit HFT.out) h.size).mono fun e w' k => k.1 (Gm.right_ok.2 hrd.red.ok)))
      rw [hrd.reach] at TQ
      have TNh := hide (fun (z x : World) (u : Value) (hu : RdGr z z.heap.size u (Gm.rdG G)) (h : Below z.heap.size z x) (s : Int) (hs : Gm.In s) => rname9_any u (Gm.rdG G) z.heap.size s hs x (hu.below h (Nat.le_refl _)) h.size)
      have TNg := hide (fun (x : World) (h : Below w.heap.size w x) (s : Int) (hs : Gm.In s) => rname9_any _ G w.heap.size s hs x (HGG.out x h) h.size)
      have HFR := hide (Gm.rdG_fit HFT.out)
      have HOK2 := hide hrd.red.ok
      have HLL := hide hrd.len
      obtain ⟨RG, hRG⟩ : ∃ x, x = Gm.rdG G := ⟨_, rfl⟩
      obtain ⟨L, hLL⟩ : ∃ x, x = Gm.rdL G := ⟨_, rfl⟩
      have HST := hide hrd.start
      rw [← hRG] at HST
      rw [← hRG] at TR TR2 TRT TS TI TP TQ TNh HFR HOK2 HLL
      rw [← hLL] at TR HLL
      have HALL := hide (fun (i : Nat) (hi : i < L.length) (hi2 : i < RG.rs.length) => hrd.all hRG hLL hi hi2)
      have HUPP := hide (fun (i : Nat) (hi : i + 1 < L.length) => hrd.ups hLL hi)
      have hL60 : L.length ≤ 60 := by rw [hLL]; have := Gm.rdL_len G; have := HR60.out; omega
      have hR60 : RG.rs.length ≤ 60 := by rw [← HLL.out]; exact hL60
      have HN40 : Hid (RG.ns.length ≤ 40) := hide (by have := (Gm.nons_iff RG).1 HOK2.out.n; omega)
      have hnl : (RG.ns.length : Int) ≤ 9223372036854775807 := by have := HN40.out; omega
      have hrl : (RG.rs.length : Int) ≤ 9223372036854775807 := by omega
      have HU60 := hide hL60
      have hul : (Gm.ups RG.rs.length).length = RG.rs.length := Gm.ups_len _
      have HUL := hide hul
      rw [hul] at TR2
      clear hRG hLL hrd he hul hne
      go_wp2_with fail
      refine (TR.out _ HQ2.out.below).mono ?_; rintro _ w3 ⟨g3, A3, e3, rfl, hg3, hr3, hb3⟩
      rw [HLL.out]
      have HQ3 := hide (HQ2.out.on hb3)
      have HG3 := hide hg3
      have HL3 := hide hr3
      obtain ⟨C0, f0, C1, f1, C2, f2, rfl, _, _, _, _, hNh, hRh⟩ := hg3
      have HNh := hide hNh
      have HRh := hide hRh
      clear hNh hRh
      have HS3 := hide (One.start w3 #[.slice C0 RG.ts.length f0, .slice C1 RG.ns.length f1, .slice C2 RG.rs.length f2, .int .i64 RG.st])
      have HZC := hide (fun (x : World) (h : One w3 #[.slice C0 RG.ts.length f0, .slice C1 RG.ns.length f1, .slice C2 RG.rs.length f2, .int .i64 RG.st] x) => And.intro (h.c 0 _ rfl) (And.intro (h.c 1 _ rfl) (And.intro (h.c 2 _ rfl) (h.c 3 _ rfl))))
      have HQ4 := hide (HQ3.out.on HS3.out.below)
      clear x0 x1 x2 x3 hr3 hb3 TR
      obtain ⟨z0, z1, z2, z3⟩ := HZC.out _ HS3.out
      have lw3 : w3.heap.size < (w3.alloc (.cells #[.slice C0 RG.ts.length f0, .slice C1 RG.ns.length f1, .slice C2 RG.rs.length f2, .int .i64 RG.st] 26)).heap.size := by simp
      go_wp2_with fail
      refine (TR2.out w3 _ _ HG3.out HS3.out.below).mono ?_; rintro _ w5 ⟨g5, A5, e5, rfl, hg5, hr5, hb5⟩
      have HQ5 := hide (HQ4.out.on hb5)
      have HS5 := hide (HS3.out.on hb5)
      have HG5 := hide hg5
      have HL5 := hide hr5
      obtain ⟨D0, h0, D1, h1, D2, h2, rfl, _⟩ := hg5
      have HT5 := hide (One.start w5 #[.slice D0 RG.ts.length h0, .slice D1 RG.ns.length h1, .slice D2 RG.rs.length h2, .int .i64 RG.st])
      have HTC := hide (fun (x : World) (h : One w5 #[.slice D0 RG.ts.length h0, .slice D1 RG.ns.length h1, .slice D2 RG.rs.length h2, .int .i64 RG.st] x) => And.intro (h.c 0 _ rfl) (And.intro (h.c 1 _ rfl) (And.intro (h.c 2 _ rfl) (h.c 3 _ rfl))))
      have HQ6 := hide (HQ5.out.on HT5.out.below)
      have HS6 := hide (HS5.out.on HT5.out.below)
      clear z0 z1 z2 z3 lw3 hr5 hb5 TR2
      obtain ⟨z0, z1, z2, z3⟩ := HZC.out _ HS6.out
      have lw5 : w3.heap.size < w5.heap.size := HS5.out.size
      go_wp2_with fail
      refine (TRT.out w3 _ _ HG3.out HS6.out.below).mono ?_; rintro _ w7 ⟨rfl, hb7⟩
      have HQ7 := hide (HQ6.out.on hb7)
      have HS7 := hide (HS6.out.on hb7)
      have HT7 := hide (HT5.out.on hb7)
      clear z0 z1 z2 z3 lw5 hb7 TRT
      obtain ⟨z0, z1, z2, z3⟩ := HZC.out _ HS7.out
      obtain ⟨y0, y1, y2, y3⟩ := HTC.out _ HT7.out
      have lw7 : w3.heap.size < w7.heap.size := HS7.out.size
      have lv7 : w5.heap.size < w7.heap.size := HT7.out.size
      go_wp2_with fail
      refine (TS.out w3 w5 _ _ _ HG3.out HG5.out HS7.out.below HT7.out.below).mono ?_; rintro _ w8 ⟨rfl, hb8⟩
      have HQ8 := hide (HQ7.out.on hb8)
      have HS8 := hide (HS7.out.on hb8)
      have HT8 := hide (HT7.out.on hb8)
      clear z0 z1 z2 z3 y0 y1 y2 y3 lw7 lv7 hb8 TS HTC
      obtain ⟨z0, z1, z2, z3⟩ := HZC.out _ HS8.out
      have lw8 : w3.heap.size < w8.heap.size := HS8.out.size
      have hrr : ((RG.rs.length : Int) != (RG.rs.length : Int)) = false := by simp
      go_wp2_with fail
      refine (TI.out w3 w8 _ HG3.out HS8.out.below).mono ?_; rintro _ w9 ⟨rfl, hb9⟩
      have HQ9 := hide (HQ8.out.on hb9)
      have HS9 := hide (HS8.out.on hb9)
      have HT9 := hide (HT8.out.on hb9)
      clear z0 z1 z2 z3 lw8 hb9 TI
      go_upto_region 11 with fail
      have HNN : Hid ((List.replicate RG.ns.length true).length = RG.ns.length) := hide (by simp)
      go_cut [9, 10] (fun v9 v10 wx => ∃ gp gq, v9 = .slice (some ⟨gp, 0, none⟩) RG.ns.length RG.ns.length ∧ v10 = .slice (some ⟨gq, 0, none⟩) RG.ns.length RG.ns.length ∧ UBO wx gp (List.replicate RG.ns.length true) ∧ UBO wx gq (List.replicate RG.ns.length true) ∧ Below w9.heap.size w9 wx)
      case first =>
        have q0 := fun y : Calm.On w9.heap.size w9 => (HZC.out y.1 (HS9.out.on y.2)).1
        have q1 := fun y : Calm.On w9.heap.size w9 => (HZC.out y.1 (HS9.out.on y.2)).2.1
        have q2 := fun y : Calm.On w9.heap.size w9 => (HZC.out y.1 (HS9.out.on y.2)).2.2.1
        have q3 := fun y : Calm.On w9.heap.size w9 => (HZC.out y.1 (HS9.out.on y.2)).2.2.2
        have HD2 : Hid (Below w9.heap.size w9 w9.drew) := hide (below_drewN (Below.refl _ _) 1)
        refine CalmN.region_tree (fun x => ∃ y : Calm.On w9.heap.size w9, x = y.1) (.one [0, 2] 1 (.one [] 3 (.fin [4, 5]))) (by kernel_rfl) (by kernel_rfl) (fun _ _ d _ _ h => by cases d <;> exact h) ⟨⟨w9.drew, HD2.out⟩, rfl⟩ ?_
        simp only [CalmN.wpT, CalmN.wpSt, CalmN.pickOps, List.getElem?_toArray, List.getElem?_cons_zero, List.getElem?_cons_succ]
        repeat (go_big_quiet_step (fail))
        refine wpQuiet_nil ?_
        clear q0 q1 q2 q3
        obtain ⟨wd, hwd⟩ : ∃ y, y = w9.drew := ⟨_, rfl⟩
        rw [← hwd] at HD2 ⊢
        clear hwd
        intro KK hKK
        rw [if_pos (by rfl)]
        go_wp2_with fail
        refine (TP.out w3 wd _ HG3.out (HS9.out.on HD2.out).below).mono ?_; rintro _ w10 ⟨ga, rfl, hga, hua, hb3⟩
        rw [HNN.out]
        have hb3' : Below w9.heap.size w9 w10 := HD2.out.trans (hb3.mono HD2.out.size)
        have HW10 := hide hb3'
        go_wp2_with fail
        refine hKK _ _ ⟨⟨w10, hb3'⟩, rfl⟩ (fun x => ∃ y : Calm.On w9.heap.size w9, x = y.1) (fun _ h => h) ⟨⟨w10, hb3'⟩, rfl⟩ ?_
        refine wpQuiet_nil ?_
        intro KK hKK
        rw [if_pos (by rfl)]
        go_wp2_with fail
        refine (TQ.out w3 w10 _ HG3.out (HS9.out.on HW10.out).below).mono ?_; rintro _ w11 ⟨gb, rfl, hgb, hub, hb4⟩
        rw [HNN.out]
        have hb4' : Below w9.heap.size w9 w11 := hb3'.trans (hb4.mono hb3'.size)
        go_wp2_with fail
        refine hKK _ _ ⟨⟨w11, hb4'⟩, rfl⟩ (fun x => ∃ y : Calm.On w9.heap.size w9, x = y.1) (fun _ h => h) ⟨⟨w11, hb4'⟩, rfl⟩ ?_
        repeat (go_big_quiet_step (fail))
        refine wpQuiet_nil ?_
        go_wp2_with fail
        go_meet
        case rel => exact ⟨ga, gb, rfl, rfl, hua.below hb4 hua.lt, hub, hb4'⟩
      case rest =>
        obtain ⟨wb, hwb⟩ : ∃ y : World, y = wc := ⟨_, rfl⟩
        subst hwb
        obtain ⟨gp, gq, rfl, rfl, hup, huq, hbc⟩ := hcut
        have HUP := hide hup
        have HUQ := hide huq
        have HQC := hide (HQ9.out.on hbc)
        have HSC := hide (HS9.out.on hbc)
        have HTC := hide (HT9.out.on hbc)
        obtain ⟨z0, z1, z2, z3⟩ := HZC.out _ HSC.out
        have lwc : w3.heap.size < wb.heap.size := HSC.out.size
        have hnn : ((RG.ns.length : Int) != (RG.ns.length : Int)) = false := by simp
        have lgp := hup.lt
        have lgq := huq.lt
        clear hup huq hbc HQ9 HS9 HT9 TP TQ
        go_wp2
        go_loop [11] (fun vk => ∃ k : Nat, k ≤ RG.ns.length ∧ vk = .int .i64 k) (fun vk => RG.ns.length - (intOf vk).toNat)
        case atStart => exact ⟨0, Nat.zero_le _, rfl⟩
        case round =>
          obtain ⟨k, hk, rfl⟩ := hrel
          by_cases hlt : k < RG.ns.length
          · have kp := HUP.out.cell k (by rw [HNN.out]; exact hlt)
            have kq := HUQ.out.cell k (by rw [HNN.out]; exact hlt)
            have hrp : (List.replicate RG.ns.length true).getD k false = true := by simp [hlt]
            rw [hrp] at kp kq
            clear hrp
            go_wp2
            go_round
            case rel => exact ⟨k + 1, hlt, by go_num⟩
            case measure => simp [intOf]; omega
          · obtain rfl : k = RG.ns.length := by omega
            clear lgp lgq z0 z1 z2 z3
            have HL3c := hide (fun (y : World) (h : Below wb.heap.size wb y) => HL3.out.below (HSC.out.on h).below (Nat.le_refl _))
            have HL5c := hide (fun (y : World) (h : Below wb.heap.size wb y) => HL5.out.below (HTC.out.on h).below (Nat.le_refl _))
            go_wp2
            go_loopw [12] (fun vi wr => ∃ i : Nat, i ≤ RG.rs.length ∧ vi = .int .i64 i ∧ Hid (Below wb.heap.size wb wr)) (fun vi _ => RG.rs.length - (intOf vi).toNat)
            case atStart => exact ⟨0, Nat.zero_le _, rfl, hide (Below.refl _ _)⟩
            case round =>
              obtain ⟨i, hi, rfl, HB⟩ := hrel
              obtain ⟨wi, hwi⟩ : ∃ y : World, y = wr := ⟨_, rfl⟩
              subst hwi
              have HQr := hide (HQC.out.on HB.out)
              have HSr := hide (HSC.out.on HB.out)
              by_cases hlt2 : i < RG.rs.length
              · have HGW := hide (HQr.out.below)
                have hiL : i < L.length := by rw [HLL.out]; exact hlt2
                obtain ⟨q, hLq2, hqG, hre, hlft, hsym⟩ := HALL.out i hiL hlt2
                have HKQ := hide hLq2
                obtain ⟨g3, o3, rfl, hg3b, hc3⟩ := HL3c.out wi HB.out (by rw [HLL.out]; omega)
                obtain ⟨g5, o5, rfl, hg5b, hc5⟩ := HL5c.out wi HB.out (by rw [HUL.out]; omega)
                have kl := hc3 i hiL
                rw [hLq2] at kl
                have km := hc5 i (by rw [HUL.out]; exact hlt2)
                rw [L_gd (by rw [HUL.out]; exact hlt2), Gm.ups_get] at km
                have hq60 : G.rs.length ≤ 60 := HR60.out
                have hii : ((i : Int) != (i : Int)) = false := by simp
                have hq0 : decide ((q : Int) < 0) = false := by simp
                have hq1 : decide ((G.rs.length : Int) ≤ (q : Int)) = false := by simp; exact hqG
                obtain ⟨x0, x1, x2, x3⟩ := HXC.out _ HQr.out
                have lw0 : w.heap.size < wi.heap.size := HQr.out.size
                have lk := block_lt_of_cell kl
                have lm := block_lt_of_cell km
                have HK3 := hide hc3
                have hq1' : decide (G.rs.length ≤ q) = false := decide_eq_false (by omega)
                have HRE := hide hre
                have HLFT := hide hlft
                have HSYM := hide hsym
                clear hLq2 hc3 hc5 hre hlft hsym
                go_upto_region 22 with fail
                go_cut [157] (fun v157 wx => v157 = .bool false ∧ Below wi.heap.size wi wx)
                case first =>
                  obtain ⟨zq, hzq⟩ : ∃ z : Int, z = (q : Int) := ⟨_, rfl⟩
                  rw [← hzq] at kl
                  have hz0 : decide (zq < 0) = false := decide_eq_false (by omega)
                  have hz1 : decide ((G.rs.length : Int) ≤ zq) = false := decide_eq_false (by omega)
                  have HZQ := hide hzq
                  clear hq0 hq1 hq1' hzq HRE HLFT HSYM hqG
                  by_cases hi0 : i = 0
                  · have hg0' : decide (0 < i) = false := by rw [hi0]; rfl
                    clear hi0
                    go_quiet (fail)
                    go_wp2_with fail
                    go_meet
                    case rel => exact ⟨rfl, below_drewN (Below.refl _ _) _⟩
                  · obtain ⟨i', hi'⟩ : ∃ i', i = i' + 1 := ⟨i - 1, by omega⟩
                    have hg0' : decide (0 < i) = true := decide_eq_true (by omega)
                    have hgi : IntKind.i64.wrap ((i : Int) - 1) = (i' : Int) := by rw [IntWalk.i64_in _ (by omega)]; omega
                    obtain ⟨q', hLq2', hre'⟩ := HALL.out i' (by omega) (by omega)
                    have kl' := HK3.out i' (by omega)
                    rw [hLq2'] at kl'
                    have hil : (i' : Int) < (RG.rs.length : Int) := by omega
                    have hup : (q' : Int) < (q : Int) := by
                      have h1 := HUPP.out i' (by rw [← hi']; exact hiL)
                      rw [← hi', hLq2', HKQ.out] at h1
                      exact h1
                    obtain ⟨zp, hzp⟩ : ∃ z : Int, z = (q' : Int) := ⟨_, rfl⟩
                    rw [← hzp] at kl'
                    have hqq : decide (zq ≤ zp) = false := decide_eq_false (by have := HZQ.out; omega)
                    clear hre' hLq2' hup hi0 hi' hzp
                    go_quiet (fail)
                    go_wp2_with fail
                    go_meet
                    case rel => exact ⟨rfl, below_drewN (Below.refl _ _) _⟩
                case rest =>
                  obtain ⟨wq, hwq⟩ : ∃ y : World, y = wc := ⟨_, rfl⟩
                  subst hwq
                  obtain ⟨rfl, hbc2⟩ := hcut
                  have HBc := hide (HB.out.trans (hbc2.mono HB.out.size))
                  have HQc := hide (HQr.out.on hbc2)
                  have HSc := hide (HSr.out.on hbc2)
                  have hxa : RG.rs[i] ∈ RG.rs := List.getElem_mem hlt2
                  have hxb : G.rs[q] ∈ G.rs := List.getElem_mem hqG
                  have hfa := HFR.out.r _ hxa
                  have hfb := HFT.out.r _ hxb
                  have hla := HOK2.out.lin _ hxa
                  have hlb := HRD.out.ok.lin _ hxb
                  have hr6 := (Gm.rule_in (HRD.out.ok.rr _ hxb)).1
                  obtain ⟨ga, oa, hCa, hga, hca⟩ := HRh.out (by omega)
                  obtain ⟨gb, ob, hCb, hgb, hcb⟩ := HRg.out (by omega)
                  subst hCa hCb
                  obtain ⟨a0, ⟨Aa, ca, a1, _, _, hria⟩, a2⟩ := hca i hlt2
                  obtain ⟨b0, ⟨Ab, cb, b1, _, _, hrib⟩, b2⟩ := hcb q hqG
                  generalize RG.rs[i] = xa at *
                  generalize G.rs[q] = xb at *
                  obtain ⟨la, ra, pa⟩ := xa
                  obtain ⟨lb, rb, pb⟩ := xb
                  have hre := HRE.out
                  unfold Gm.re at hre
                  injection hre with hre1 hre2 hre3
                  simp only at hre1 hre2 hre3
                  have HRR := hide hre2
                  have hlen : ra.length = rb.length := by rw [hre2]; simp
                  subst hre3
                  have HSYM2 := hide (fun z hz => HSYM.out z hz)
                  have HLFT2 := hide (show RG.ns.getD la.toNat [] = G.ns.getD lb.toNat [] from HLFT.out)
                  clear HRE HSYM HLFT hre1 hre2 hca hcb
                  simp only at a0 a1 a2 b0 b1 b2 hria hrib hfa hfb hla hlb hr6
                  rw [hlen] at a1
                  have HLEN := hide hlen
                  clear hlen
                  obtain ⟨ma, rfl⟩ : ∃ m : Nat, la = (m : Int) := ⟨la.toNat, by omega⟩
                  obtain ⟨mb, rfl⟩ : ∃ m : Nat, lb = (m : Int) := ⟨lb.toNat, by omega⟩
                  simp only [Int.toNat_natCast] at HLFT2
                  have HSY := hide (fun (y : World) (h : Below wq.heap.size wq y) => HSc.out.on h)
                  have HQY := hide (fun (y : World) (h : Below wq.heap.size wq y) => HQc.out.on h)
                  have HRA := hide (fun (y : World) (h : Below wq.heap.size wq y) => hria.below (HSY.out y h).below (Nat.le_refl _))
                  have HRB := hide (fun (y : World) (h : Below wq.heap.size wq y) => hrib.below (HQY.out y h).below (Nat.le_refl _))
                  have HFA := hide hfa.2.2
                  have HFB := hide hfb.2.2
                  have hma : (ma : Int) < (RG.ns.length : Int) := hla.2
                  have hmb : (mb : Int) < (G.ns.length : Int) := hlb.2
                  have hqi : (q : Int) < (G.rs.length : Int) := by omega
                  obtain ⟨z0, z1, z2, z3⟩ := HZC.out _ HSc.out
                  have lwq3 : w3.heap.size < wq.heap.size := HSc.out.size
                  clear hria hrib hfa hfb
                  go_upto_region 24 with fail
                  go_cut [13, 14] (fun v13 v14 wx => ∃ D1 D2, v13 = .pointer (some ⟨D1, 0, none⟩) ∧ v14 = .pointer (some ⟨D2, 0, none⟩) ∧ wx.heap[D1]? = some (.cells #[.int .i64 ma, .slice Aa rb.length ca, .int .i64 pa] 40 (0, 0)) ∧ wx.heap[D2]? = some (.cells #[.int .i64 mb, .slice Ab rb.length cb, .int .i64 pa] 40 (0, 0)) ∧ Below wq.heap.size wq wx)
                  case first =>
                    have p0 := fun y : Calm.On wq.heap.size wq => ((HSY.out y.1 y.2).below.cell (p := ⟨ga, oa + i * 3, none⟩) hga).trans a0
                    have p1 := fun y : Calm.On wq.heap.size wq => ((HSY.out y.1 y.2).below.cell (p := ⟨ga, oa + i * 3 + 1, none⟩) hga).trans a1
                    have p2 := fun y : Calm.On wq.heap.size wq => ((HSY.out y.1 y.2).below.cell (p := ⟨ga, oa + i * 3 + 2, none⟩) hga).trans a2
                    have r0 := fun y : Calm.On wq.heap.size wq => ((HQY.out y.1 y.2).below.cell (p := ⟨gb, ob + q * 3, none⟩) hgb).trans b0
                    have r1 := fun y : Calm.On wq.heap.size wq => ((HQY.out y.1 y.2).below.cell (p := ⟨gb, ob + q * 3 + 1, none⟩) hgb).trans b1
                    have r2 := fun y : Calm.On wq.heap.size wq => ((HQY.out y.1 y.2).below.cell (p := ⟨gb, ob + q * 3 + 2, none⟩) hgb).trans b2
                    have pz := fun y : Calm.On wq.heap.size wq => (HZC.out y.1 (HSY.out y.1 y.2)).2.2.1
                    have px := fun y : Calm.On wq.heap.size wq => (HXC.out y.1 (HQY.out y.1 y.2)).2.2.1
                    have pl := fun y : Calm.On wq.heap.size wq => ((HL3c.out y.1 (HBc.out.trans (y.2.mono HBc.out.size))).cell i hiL).trans (by rw [HKQ.out])
                    have HD0 : Hid (Below wq.heap.size wq wq.drew) := hide (below_drewN (Below.refl _ _) 1)
                    clear a0 a1 a2 b0 b1 b2 x0 x1 x2 x3 z0 z1 z2 z3 kl km lk lm
                    refine CalmN.region_tree (fun x => ∃ y : Calm.On wq.heap.size wq, x = y.1) (.two [0, 1, 2, 3, 4, 5, 6, 7, 8, 9, 10, 11, 12] 13 (.one [] 14 (.one [] 15 (.one [] 16 (.fin [])))) 14 (.one [] 13 (.one [] 15 (.one [] 16 (.fin []))))) (by kernel_rfl) (by kernel_rfl) (fun _ _ d _ _ h => by cases d <;> exact h) ⟨⟨wq.drew, HD0.out⟩, rfl⟩ ?_
                    simp only [CalmN.wpT, CalmN.wpSt, CalmN.pickOps, List.getElem?_toArray, List.getElem?_cons_zero, List.getElem?_cons_succ]
                    repeat (go_big_quiet_step (fail))
                    refine wpQuiet_nil ?_
                    clear p0 p1 p2 r0 r1 r2 pz px pl
                    obtain ⟨wd, hwd⟩ : ∃ y, y = wq.drew := ⟨_, rfl⟩
                    have HZD : Hid (wq.heap.size ≤ wd.heap.size) := hide (by rw [hwd]; exact Nat.le_refl _)
                    rw [← hwd] at HD0 ⊢
                    clear hwd
                    have hz1 := HD0.out.alloc HD0.out.size (.cells #[.int .i64 0, .slice none 0 0, .int .i64 0] 40)
                    have hz2 := hz1.alloc hz1.size (.cells #[.int .i64 0, .slice none 0 0, .int .i64 0] 40)
                    have hE1 : ((wd.alloc (.cells #[.int .i64 0, .slice none 0 0, .int .i64 0] 40)).alloc (.cells #[.int .i64 0, .slice none 0 0, .int .i64 0] 40)).heap[wd.heap.size]? = some (.cells #[.int .i64 0, .slice none 0 0, .int .i64 0] 40 (0, 0)) := by rw [Below.heap_alloc _ _ _ (by simp)]; exact heap_alloc_new wd _
                    have hE2 : ((wd.alloc (.cells #[.int .i64 0, .slice none 0 0, .int .i64 0] 40)).alloc (.cells #[.int .i64 0, .slice none 0 0, .int .i64 0] 40)).heap[wd.heap.size + 1]? = some (.cells #[.int .i64 0, .slice none 0 0, .int .i64 0] 40 (0, 0)) := by have := heap_alloc_new (wd.alloc (.cells #[.int .i64 0, .slice none 0 0, .int .i64 0] 40)) (.cells #[.int .i64 0, .slice none 0 0, .int .i64 0] 40); simpa using this
                    have HHZ := hide (And.intro hz1 (And.intro hz2 (And.intro hE1 hE2)))
                    clear hz1 hz2 hE1 hE2
                    refine ⟨?_, ?_⟩
                    · intro KK hKK
                      rw [if_pos (by rfl)]
                      go_wp2_with fail
                      refine hKK _ _ ⟨⟨_, HHZ.out.1⟩, rfl⟩ (fun x => ∃ y : Calm.On wq.heap.size wq, x = y.1) (fun _ h => h) ⟨⟨_, HHZ.out.1⟩, rfl⟩ ?_
                      refine wpQuiet_nil ?_
                      intro KK hKK
                      rw [if_pos (by rfl)]
                      go_wp2_with fail
                      refine hKK _ _ ⟨⟨_, HHZ.out.2.1⟩, rfl⟩ (fun x => ∃ y : Calm.On wq.heap.size wq, x = y.1) (fun _ h => h) ⟨⟨_, HHZ.out.2.1⟩, rfl⟩ ?_
                      refine wpQuiet_nil ?_
                      obtain ⟨-, hz2, hE1, hE2⟩ := HHZ.out
                      obtain ⟨wa, hwa⟩ : ∃ y, y = (wd.alloc (.cells #[.int .i64 0, .slice none 0 0, .int .i64 0] 40)).alloc (.cells #[.int .i64 0, .slice none 0 0, .int .i64 0] 40) := ⟨_, rfl⟩
                      obtain ⟨Y, hY⟩ : ∃ Y, Y = wd.heap.size + 1 := ⟨_, rfl⟩
                      obtain ⟨X, hX⟩ : ∃ X, X = wd.heap.size := ⟨_, rfl⟩
                      rw [← hwa] at hz2 hE1 hE2 ⊢
                      rw [← hY] at hE2 ⊢
                      rw [← hX] at hE1 ⊢
                      have hXY : X ≠ Y := by omega
                      have hbX : wq.heap.size ≤ X := by have := HZD.out; omega
                      have hbY : wq.heap.size ≤ Y := by have := HZD.out; omega
                      clear hwa hX hY hKK
                      have ws1t := heap_setCell_same _ X 2 _ _ (.int .i64 pa) (heap_setCell_same _ X 1 _ _ (.slice Aa rb.length ca) (heap_setCell_same wa X 0 _ _ (.int .i64 ma) hE1))
                      have ws1o := (Below.heap_setCell _ ⟨X, 2, none⟩ (.int .i64 pa) Y hXY.symm).trans ((Below.heap_setCell _ ⟨X, 1, none⟩ (.slice Aa rb.length ca) Y hXY.symm).trans ((Below.heap_setCell wa ⟨X, 0, none⟩ (.int .i64 ma) Y hXY.symm).trans hE2))
                      have ws1b := ((hz2.setCell (p := ⟨X, 0, none⟩) hbX (.int .i64 ma)).setCell (p := ⟨X, 1, none⟩) hbX (.slice Aa rb.length ca)).setCell (p := ⟨X, 2, none⟩) hbX (.int .i64 pa)
                      have d0 := cell_of_row wa _ 0 _ _ _ hE1
                      have d1 := cell_of_row wa _ 1 _ _ _ hE1
                      have d2 := cell_of_row wa _ 2 _ _ _ hE1
                      have f0 := frozen_of_row wa _ 0 _ _ hE1
                      have f1 := frozen_of_row wa _ 1 _ _ hE1
                      have f2 := frozen_of_row wa _ 2 _ _ hE1
                      have ld := (Array.getElem?_eq_some_iff.1 hE1).1
                      intro KK hKK
                      rw [if_pos (by rfl)]
                      go_wp2_with fail
                      obtain ⟨ws1, hws1⟩ : ∃ y, y = ((wa.setCell ⟨X, 0, none⟩ (.int .i64 ma)).setCell ⟨X, 1, none⟩ (.slice Aa rb.length ca)).setCell ⟨X, 2, none⟩ (.int .i64 pa) := ⟨_, rfl⟩
                      rw [← hws1] at ws1t ws1o ws1b ⊢
                      refine hKK _ _ ⟨⟨ws1, ws1b⟩, rfl⟩ (fun x => ∃ y : Calm.On wq.heap.size wq, x = y.1) (fun _ h => h) ⟨⟨ws1, ws1b⟩, rfl⟩ ?_
                      clear d0 d1 d2 f0 f1 f2 ld hws1 hKK hz2 hE1 hE2
                      refine wpQuiet_nil ?_
                      have ws2t := heap_setCell_same _ Y 2 _ _ (.int .i64 pa) (heap_setCell_same _ Y 1 _ _ (.slice Ab rb.length cb) (heap_setCell_same ws1 Y 0 _ _ (.int .i64 mb) ws1o))
                      have ws2o := (Below.heap_setCell _ ⟨Y, 2, none⟩ (.int .i64 pa) X hXY).trans ((Below.heap_setCell _ ⟨Y, 1, none⟩ (.slice Ab rb.length cb) X hXY).trans ((Below.heap_setCell ws1 ⟨Y, 0, none⟩ (.int .i64 mb) X hXY).trans ws1t))
                      have ws2b := ((ws1b.setCell (p := ⟨Y, 0, none⟩) hbY (.int .i64 mb)).setCell (p := ⟨Y, 1, none⟩) hbY (.slice Ab rb.length cb)).setCell (p := ⟨Y, 2, none⟩) hbY (.int .i64 pa)
                      have d0 := cell_of_row ws1 _ 0 _ _ _ ws1o
                      have d1 := cell_of_row ws1 _ 1 _ _ _ ws1o
                      have d2 := cell_of_row ws1 _ 2 _ _ _ ws1o
                      have f0 := frozen_of_row ws1 _ 0 _ _ ws1o
                      have f1 := frozen_of_row ws1 _ 1 _ _ ws1o
                      have f2 := frozen_of_row ws1 _ 2 _ _ ws1o
                      have ld := (Array.getElem?_eq_some_iff.1 ws1o).1
                      intro KK hKK
                      rw [if_pos (by rfl)]
                      go_wp2_with fail
                      obtain ⟨ws2, hws2⟩ : ∃ y, y = ((ws1.setCell ⟨Y, 0, none⟩ (.int .i64 mb)).setCell ⟨Y, 1, none⟩ (.slice Ab rb.length cb)).setCell ⟨Y, 2, none⟩ (.int .i64 pa) := ⟨_, rfl⟩
                      rw [← hws2] at ws2t ws2o ws2b ⊢
                      refine hKK _ _ ⟨⟨ws2, ws2b⟩, rfl⟩ (fun x => ∃ y : Calm.On wq.heap.size wq, x = y.1) (fun _ h => h) ⟨⟨ws2, ws2b⟩, rfl⟩ ?_
                      clear d0 d1 d2 f0 f1 f2 ld hws2 hKK ws1b ws1o ws1t
                      refine wpQuiet_nil ?_
                      go_wp2_with fail
                      go_meet
                      case rel => exact ⟨X, Y, rfl, rfl, ws2o, ws2t, ws2b⟩
                    · intro KK hKK
                      rw [if_pos (by rfl)]
                      go_wp2_with fail
                      refine hKK _ _ ⟨⟨_, HHZ.out.1⟩, rfl⟩ (fun x => ∃ y : Calm.On wq.heap.size wq, x = y.1) (fun _ h => h) ⟨⟨_, HHZ.out.1⟩, rfl⟩ ?_
                      refine wpQuiet_nil ?_
                      intro KK hKK
                      rw [if_pos (by rfl)]
                      go_wp2_with fail
                      refine hKK _ _ ⟨⟨_, HHZ.out.2.1⟩, rfl⟩ (fun x => ∃ y : Calm.On wq.heap.size wq, x = y.1) (fun _ h => h) ⟨⟨_, HHZ.out.2.1⟩, rfl⟩ ?_
                      refine wpQuiet_nil ?_
                      obtain ⟨-, hz2, hE1, hE2⟩ := HHZ.out
                      obtain ⟨wa, hwa⟩ : ∃ y, y = (wd.alloc (.cells #[.int .i64 0, .slice none 0 0, .int .i64 0] 40)).alloc (.cells #[.int .i64 0, .slice none 0 0, .int .i64 0] 40) := ⟨_, rfl⟩
                      obtain ⟨Y, hY⟩ : ∃ Y, Y = wd.heap.size + 1 := ⟨_, rfl⟩
                      obtain ⟨X, hX⟩ : ∃ X, X = wd.heap.size := ⟨_, rfl⟩
                      rw [← hwa] at hz2 hE1 hE2 ⊢
                      rw [← hY] at hE2 ⊢
                      rw [← hX] at hE1 ⊢
                      have hXY : X ≠ Y := by omega
                      have hbX : wq.heap.size ≤ X := by have := HZD.out; omega
                      have hbY : wq.heap.size ≤ Y := by have := HZD.out; omega
                      clear hwa hX hY hKK
                      have ws1t := heap_setCell_same _ Y 2 _ _ (.int .i64 pa) (heap_setCell_same _ Y 1 _ _ (.slice Aa rb.length ca) (heap_setCell_same wa Y 0 _ _ (.int .i64 ma) hE2))
                      have ws1o := (Below.heap_setCell _ ⟨Y, 2, none⟩ (.int .i64 pa) X hXY).trans ((Below.heap_setCell _ ⟨Y, 1, none⟩ (.slice Aa rb.length ca) X hXY).trans ((Below.heap_setCell wa ⟨Y, 0, none⟩ (.int .i64 ma) X hXY).trans hE1))
                      have ws1b := ((hz2.setCell (p := ⟨Y, 0, none⟩) hbY (.int .i64 ma)).setCell (p := ⟨Y, 1, none⟩) hbY (.slice Aa rb.length ca)).setCell (p := ⟨Y, 2, none⟩) hbY (.int .i64 pa)
                      have d0 := cell_of_row wa _ 0 _ _ _ hE2
                      have d1 := cell_of_row wa _ 1 _ _ _ hE2
                      have d2 := cell_of_row wa _ 2 _ _ _ hE2
                      have f0 := frozen_of_row wa _ 0 _ _ hE2
                      have f1 := frozen_of_row wa _ 1 _ _ hE2
                      have f2 := frozen_of_row wa _ 2 _ _ hE2
                      have ld := (Array.getElem?_eq_some_iff.1 hE2).1
                      intro KK hKK
                      rw [if_pos (by rfl)]
                      go_wp2_with fail
                      obtain ⟨ws1, hws1⟩ : ∃ y, y = ((wa.setCell ⟨Y, 0, none⟩ (.int .i64 ma)).setCell ⟨Y, 1, none⟩ (.slice Aa rb.length ca)).setCell ⟨Y, 2, none⟩ (.int .i64 pa) := ⟨_, rfl⟩
                      rw [← hws1] at ws1t ws1o ws1b ⊢
                      refine hKK _ _ ⟨⟨ws1, ws1b⟩, rfl⟩ (fun x => ∃ y : Calm.On wq.heap.size wq, x = y.1) (fun _ h => h) ⟨⟨ws1, ws1b⟩, rfl⟩ ?_
                      clear d0 d1 d2 f0 f1 f2 ld hws1 hKK hz2 hE2 hE1
                      refine wpQuiet_nil ?_
                      have ws2t := heap_setCell_same _ X 2 _ _ (.int .i64 pa) (heap_setCell_same _ X 1 _ _ (.slice Ab rb.length cb) (heap_setCell_same ws1 X 0 _ _ (.int .i64 mb) ws1o))
                      have ws2o := (Below.heap_setCell _ ⟨X, 2, none⟩ (.int .i64 pa) Y hXY.symm).trans ((Below.heap_setCell _ ⟨X, 1, none⟩ (.slice Ab rb.length cb) Y hXY.symm).trans ((Below.heap_setCell ws1 ⟨X, 0, none⟩ (.int .i64 mb) Y hXY.symm).trans ws1t))
                      have ws2b := ((ws1b.setCell (p := ⟨X, 0, none⟩) hbX (.int .i64 mb)).setCell (p := ⟨X, 1, none⟩) hbX (.slice Ab rb.length cb)).setCell (p := ⟨X, 2, none⟩) hbX (.int .i64 pa)
                      have d0 := cell_of_row ws1 _ 0 _ _ _ ws1o
                      have d1 := cell_of_row ws1 _ 1 _ _ _ ws1o
                      have d2 := cell_of_row ws1 _ 2 _ _ _ ws1o
                      have f0 := frozen_of_row ws1 _ 0 _ _ ws1o
                      have f1 := frozen_of_row ws1 _ 1 _ _ ws1o
                      have f2 := frozen_of_row ws1 _ 2 _ _ ws1o
                      have ld := (Array.getElem?_eq_some_iff.1 ws1o).1
                      intro KK hKK
                      rw [if_pos (by rfl)]
                      go_wp2_with fail
                      obtain ⟨ws2, hws2⟩ : ∃ y, y = ((ws1.setCell ⟨X, 0, none⟩ (.int .i64 mb)).setCell ⟨X, 1, none⟩ (.slice Ab rb.length cb)).setCell ⟨X, 2, none⟩ (.int .i64 pa) := ⟨_, rfl⟩
                      rw [← hws2] at ws2t ws2o ws2b ⊢
                      refine hKK _ _ ⟨⟨ws2, ws2b⟩, rfl⟩ (fun x => ∃ y : Calm.On wq.heap.size wq, x = y.1) (fun _ h => h) ⟨⟨ws2, ws2b⟩, rfl⟩ ?_
                      clear d0 d1 d2 f0 f1 f2 ld hws2 hKK ws1b ws1o ws1t
                      refine wpQuiet_nil ?_
                      go_wp2_with fail
                      go_meet
                      case rel => exact ⟨Y, X, rfl, rfl, ws2o, ws2t, ws2b⟩
                  case rest =>
                    obtain ⟨we, hwe⟩ : ∃ y : World, y = wc := ⟨_, rfl⟩
                    subst hwe
                    obtain ⟨D1, D2, rfl, rfl, hD1, hD2, hbc3⟩ := hcut
                    have HD1 := hide hD1
                    have HD2 := hide hD2
                    have HBE := hide (HBc.out.trans (hbc3.mono HBc.out.size))
                    have HW3 := hide hbc3
                    have HQE := hide (HQY.out we hbc3)
                    have HSE := hide (HSY.out we hbc3)
                    obtain ⟨gN, oN, hCN, hgN, hcN⟩ := HNh.out (by omega)
                    obtain ⟨gM, oM, hCM, hgM, hcM⟩ := HNg.out (by omega)
                    subst hCN hCM
                    have nN := hcN ma (by omega)
                    have nM := hcM mb (by omega)
                    rw [show RG.ns[ma]'(by omega) = RG.ns.getD ma [] by rw [List.getD_eq_getElem?_getD, List.getElem?_eq_getElem (by omega)]; rfl, HLFT2.out] at nN
                    rw [show G.ns[mb]'(by omega) = G.ns.getD mb [] by rw [List.getD_eq_getElem?_getD, List.getElem?_eq_getElem (by omega)]; rfl] at nM
                    obtain ⟨nm, hnm⟩ : ∃ s, s = G.ns.getD mb [] := ⟨_, rfl⟩
                    rw [← hnm] at nN nM
                    have nN := (HSE.out.below.cell (p := ⟨gN, oN + ma, none⟩) hgN).trans nN
                    have nM := (HQE.out.below.cell (p := ⟨gM, oM + mb, none⟩) hgM).trans nM
                    have d10 := cell_of_row we _ 0 _ _ _ hD1
                    have d11 := cell_of_row we _ 1 _ _ _ hD1
                    have d12 := cell_of_row we _ 2 _ _ _ hD1
                    have d20 := cell_of_row we _ 0 _ _ _ hD2
                    have d21 := cell_of_row we _ 1 _ _ _ hD2
                    have d22 := cell_of_row we _ 2 _ _ _ hD2
                    simp only [List.getElem?_toArray, List.getElem?_cons_zero, List.getElem?_cons_succ] at d10 d11 d12 d20 d21 d22
                    have ld1 := (Array.getElem?_eq_some_iff.1 hD1).1
                    have ld2 := (Array.getElem?_eq_some_iff.1 hD2).1
                    obtain ⟨x0, x1, x2, x3⟩ := HXC.out _ HQE.out
                    obtain ⟨z0, z1, z2, z3⟩ := HZC.out _ HSE.out
                    have lq1 : w3.heap.size < we.heap.size := HSE.out.size
                    have lq2 : w.heap.size < we.heap.size := HQE.out.size
                    have lnN := block_lt_of_cell nN
                    have lnM := block_lt_of_cell nM
                    have hll : ((rb.length : Int) != (rb.length : Int)) = false := by simp
                    have hpp : (pa != pa) = false := by simp
                    have hss : ((K.str nm).toList == (K.str nm).toList) = true := by simp
                    clear hcN hcM hnm hD1 hD2 hbc3
                    go_upto_region 25 with fail
                    go_quiet (fail)
                    go_wp2_with fail
                    clear d10 d11 d12 d20 d21 d22 x0 x1 x2 x3 z0 z1 z2 z3 nN nM ld1 ld2 lq1 lq2 lnN lnM hll hpp hss
                    go_loopw [15] (fun vj wr => ∃ j : Nat, j ≤ rb.length ∧ vj = .int .i64 j ∧ Hid (Below we.heap.size we wr)) (fun vj _ => rb.length - (intOf vj).toNat)
                    case atStart => exact ⟨0, Nat.zero_le _, rfl, hide (below_drewN (Below.refl _ _) _)⟩
                    case round =>
                      obtain ⟨j, hj, rfl, HBr⟩ := hrel
                      obtain ⟨wj, hwj⟩ : ∃ y : World, y = wr := ⟨_, rfl⟩
                      subst hwj
                      have HE1 := hide (heap_keep HBr.out HD1.out)
                      have HE2 := hide (heap_keep HBr.out HD2.out)
                      have d11 : wj.cell? ⟨D1, 1, none⟩ = some (.slice Aa rb.length ca) := by rw [cell_of_row wj _ 1 _ _ _ HE1.out]; rfl
                      have ld1 := block_lt_of_cell d11
                      by_cases hlt3 : j < rb.length
                      · have hjr : j < ra.length := by rw [HLEN.out]; exact hlt3
                        obtain ⟨g6, o6, hA6, hg6, hc6⟩ := HRA.out wq (Below.refl _ _) (by omega)
                        obtain ⟨g7, o7, hA7, hg7, hc7⟩ := HRB.out wq (Below.refl _ _) (by omega)
                        subst hA6 hA7
                        have k6 := hc6 j hjr
                        have k7 := hc7 j hlt3
                        rw [L_gd hjr] at k6
                        rw [L_gd hlt3] at k7
                        have hu := HFA.out _ (List.getElem_mem hjr)
                        have hz := HFB.out _ (List.getElem_mem hlt3)
                        have hsy := HSYM2.out _ (List.getElem_mem hlt3)
                        have hru : ra[j] = Gm.re1 (Gm.olds G) rb[j] := by simp only [HRR.out, List.getElem_map]
                        rw [← hru] at hsy
                        generalize ra[j] = u at *
                        generalize rb[j] = z at *
                        have HYQ := hide (fun (y : World) (h : Below wj.heap.size wj y) => (show Below wq.heap.size wq y from HW3.out.trans ((HBr.out.trans (h.mono HBr.out.size)).mono HW3.out.size)))
                        have l6 : g6 < wq.heap.size := block_lt_of_cell k6
                        have l7 : g7 < wq.heap.size := block_lt_of_cell k7
                        have TH := hide (fun (x : World) (h : Below wj.heap.size wj x) => TNh.out w3 x _ HG3.out (HSY.out x (HYQ.out x h)).below u hu)
                        have TG' := hide (fun (x : World) (h : Below wj.heap.size wj x) => TNg.out x (HQY.out x (HYQ.out x h)).below z hz)
                        rw [hsy] at TH
                        generalize Gm.name G z = sn at *
                        have b6 := fun y : Calm.On wj.heap.size wj => ((HYQ.out y.1 y.2).cell (p := ⟨g6, o6 + j, none⟩) l6).trans k6
                        have b7 := fun y : Calm.On wj.heap.size wj => ((HYQ.out y.1 y.2).cell (p := ⟨g7, o7 + j, none⟩) l7).trans k7
                        have bz0 := fun y : Calm.On wj.heap.size wj => (HZC.out y.1 (HSY.out y.1 (HYQ.out y.1 y.2))).1
                        have bz1 := fun y : Calm.On wj.heap.size wj => (HZC.out y.1 (HSY.out y.1 (HYQ.out y.1 y.2))).2.1
                        have bz2 := fun y : Calm.On wj.heap.size wj => (HZC.out y.1 (HSY.out y.1 (HYQ.out y.1 y.2))).2.2.1
                        have bz3 := fun y : Calm.On wj.heap.size wj => (HZC.out y.1 (HSY.out y.1 (HYQ.out y.1 y.2))).2.2.2
                        have bx0 := fun y : Calm.On wj.heap.size wj => (HXC.out y.1 (HQY.out y.1 (HYQ.out y.1 y.2))).1
                        have bx1 := fun y : Calm.On wj.heap.size wj => (HXC.out y.1 (HQY.out y.1 (HYQ.out y.1 y.2))).2.1
                        have bx2 := fun y : Calm.On wj.heap.size wj => (HXC.out y.1 (HQY.out y.1 (HYQ.out y.1 y.2))).2.2.1
                        have bx3 := fun y : Calm.On wj.heap.size wj => (HXC.out y.1 (HQY.out y.1 (HYQ.out y.1 y.2))).2.2.2
                        have bd1 := fun y : Calm.On wj.heap.size wj => (show y.1.cell? ⟨D1, 1, none⟩ = some (.slice (some ⟨g6, o6, none⟩) rb.length ca) by rw [cell_of_row y.1 _ 1 _ _ _ (heap_keep y.2 HE1.out)]; rfl)
                        have bd2 := fun y : Calm.On wj.heap.size wj => (show y.1.cell? ⟨D2, 1, none⟩ = some (.slice (some ⟨g7, o7, none⟩) rb.length cb) by rw [cell_of_row y.1 _ 1 _ _ _ (heap_keep y.2 HE2.out)]; rfl)
                        have HJ0 : Hid (Below wj.heap.size wj wj.drew) := hide (below_drewN (Below.refl _ _) 1)
                        go_upto_region 30 with fail
                        clear d11 ld1 hc6 hc7 k6 k7 hru hsy hu hz
                        refine CalmN.region_tree (fun x => ∃ y : Calm.On wj.heap.size wj, x = y.1) (.one [0, 1, 2, 3, 4, 5, 7, 8, 9, 10, 11, 12] 6 (.one [] 13 (.fin [14]))) (by kernel_rfl) (by kernel_rfl) (fun _ _ d _ _ h => by cases d <;> exact h) ⟨⟨wj.drew, HJ0.out⟩, rfl⟩ ?_
                        simp only [CalmN.wpT, CalmN.wpSt, CalmN.pickOps, List.getElem?_toArray, List.getElem?_cons_zero, List.getElem?_cons_succ]
                        repeat (go_big_quiet_step (fail))
                        refine wpQuiet_nil ?_
                        clear b6 b7 bz0 bz1 bz2 bz3 bx0 bx1 bx2 bx3 bd1 bd2
                        obtain ⟨wd, hwd⟩ : ∃ y, y = wj.drew := ⟨_, rfl⟩
                        rw [← hwd] at HJ0 ⊢
                        clear hwd
                        intro KK hKK
                        rw [if_pos (by rfl)]
                        go_wp2_with fail
                        refine (TH.out wd HJ0.out).mono ?_; rintro _ v1 ⟨rfl, hb1⟩
                        have HV1 := hide (HJ0.out.trans (hb1.mono HJ0.out.size))
                        clear hb1
                        go_wp2_with fail
                        refine hKK _ _ ⟨⟨_, HV1.out⟩, rfl⟩ (fun x => ∃ y : Calm.On wj.heap.size wj, x = y.1) (fun _ h => h) ⟨⟨_, HV1.out⟩, rfl⟩ ?_
                        refine wpQuiet_nil ?_
                        intro KK hKK
                        rw [if_pos (by rfl)]
                        go_wp2_with fail
                        refine (TG'.out v1 HV1.out).mono ?_; rintro _ v2 ⟨rfl, hb2⟩
                        have HV2 := hide (HV1.out.trans (hb2.mono HV1.out.size))
                        clear hb2
                        go_wp2_with fail
                        refine hKK _ _ ⟨⟨_, HV2.out⟩, rfl⟩ (fun x => ∃ y : Calm.On wj.heap.size wj, x = y.1) (fun _ h => h) ⟨⟨_, HV2.out⟩, rfl⟩ ?_
                        have hss : ((K.str sn).toList == (K.str sn).toList) = true := by simp
                        repeat (go_big_quiet_step (fail))
                        refine wpQuiet_nil ?_
                        go_wp2
                        go_roundw
                        case rel => exact ⟨j + 1, hlt3, by go_num, hide (HBr.out.trans (HV2.out.mono HBr.out.size))⟩
                        case measure => simp [intOf]; omega
                      · obtain rfl : j = rb.length := by omega
                        go_wp2
                        go_roundw
                        case rel => exact ⟨i + 1, hlt2, by go_num, hide (HBE.out.trans (HBr.out.mono HBE.out.size))⟩
                        case measure => simp [intOf]; omega
              · obtain rfl : i = RG.rs.length := by omega
                have hs0 := HOK2.out.s0
                have hs1 := HOK2.out.s1
                have ht0 := HRD.out.ok.s0
                have ht1 := HRD.out.ok.s1
                obtain ⟨ms, hms⟩ : ∃ m : Nat, RG.st = (m : Int) := ⟨RG.st.toNat, by omega⟩
                obtain ⟨mg, hmg⟩ : ∃ m : Nat, G.st = (m : Int) := ⟨G.st.toNat, by omega⟩
                have hst := HST.out
                rw [hms, hmg] at hst
                simp only [Int.toNat_natCast] at hst
                obtain ⟨gN, oN, hCN, hgN, hcN⟩ := HNh.out (by omega)
                obtain ⟨gM, oM, hCM, hgM, hcM⟩ := HNg.out (by omega)
                subst hCN hCM
                have nN := hcN ms (by omega)
                have nM := hcM mg (by omega)
                rw [show RG.ns[ms]'(by omega) = RG.ns.getD ms [] by rw [List.getD_eq_getElem?_getD, List.getElem?_eq_getElem (by omega)]; rfl, hst] at nN
                rw [show G.ns[mg]'(by omega) = G.ns.getD mg [] by rw [List.getD_eq_getElem?_getD, List.getElem?_eq_getElem (by omega)]; rfl] at nM
                obtain ⟨nm, hnm⟩ : ∃ s, s = G.ns.getD mg [] := ⟨_, rfl⟩
                rw [← hnm] at nN nM
                have nN := (HSr.out.below.cell (p := ⟨gN, oN + ms, none⟩) hgN).trans nN
                have nM := (HQr.out.below.cell (p := ⟨gM, oM + mg, none⟩) hgM).trans nM
                obtain ⟨x0, x1, x2, x3⟩ := HXC.out _ HQr.out
                obtain ⟨z0, z1, z2, z3⟩ := HZC.out _ HSr.out
                rw [hms] at z3 hs1
                rw [hmg] at x3 ht1
                have lq1 : w3.heap.size < wi.heap.size := HSr.out.size
                have lq2 : w.heap.size < wi.heap.size := HQr.out.size
                have lnN := block_lt_of_cell nN
                have lnM := block_lt_of_cell nM
                have hss : ((K.str nm).toList == (K.str nm).toList) = true := by simp
                clear hcN hcM hnm hst hms hmg hs0 ht0
                go_upto_region 32 with fail
                go_quiet (fail)
                go_wp2
                go_ret
                exact ⟨rfl, below_drewN HQr.out.below _⟩
end Go.Proofs.YtfiijndmlmddbaaGreat

namespace Go.Proofs.YtfiijndmlmddbaaGreat
open Go.ChangeShapes Go.WideShapes Go.Deep Go.RowKit Go.Joins

section
variable {H : Type} {enc : TypeId × Value → H} {P : Program} {w : World} {base : Nat} {spare : Nat → Bool} {held : Bool}

/-- A slice of structs of one-cell fields: each field of each element. -/
theorem open_rows {t e : TypeId} {fs : Array Field} {fuel : Nat} {cs : List Value} {x : DataW H × List MemPlace} (ht : P.underlying t = some (.slice e)) (he : P.underlying e = some (.struct fs))
    (hone : oneCellFields P fs = true) (hC : P.cellsOf e = fs.size) (h : DataW.trod enc P w base spare held fuel t cs = some x) :
    cs = [.slice none 0 0] ∨
    ∃ (a : Addr) (len cap : Nat), cs = [.slice (some a) len cap] ∧ len ≤ cap ∧ cap ≤ maxLen ∧
      ∀ i, i < len → ∀ (j : Nat) (f : Field), fs[j]? = some f → ∃ (v : Value) (y : DataW H × List MemPlace) (n : Nat), w.cell? (a.add (i * fs.size + j)) = some v ∧ DataW.trod enc P w base spare held n f.type [v] = some y := by
  rcases open_slice ht h with h0 | ⟨a, len, cap, m, n, D, Pl, hcs, hb, hl, hm, hmm, hx, hi⟩
  · exact .inl h0.1
  · refine .inr ⟨a, len, cap, hcs, hl, hm, fun i him j f hj => ?_⟩
    obtain ⟨cs', hc, ht'⟩ := hi i (by rw [hmm]; split <;> omega)
    rw [hC] at hc
    obtain ⟨ys, n', hn', hy, hlen, hyl, hf⟩ := DataW.trod_struct he ht'
    obtain ⟨_, hcl, hat⟩ := World.cells?_some hc
    obtain ⟨ho, hk⟩ := hone_of hone j f hj
    have hjl : j < fs.size := (Array.getElem?_eq_some_iff.1 hj).1
    have hcell := hat j hjl
    have hv : cs'[j]? = some (cs'[j]'(by omega)) := List.getElem?_eq_getElem (by omega)
    have h1 := hf j f hj
    rw [ho, hk] at h1
    have hone' : (cs'.drop j).take 1 = [cs'[j]'(by omega)] := by
      rw [List.drop_eq_getElem_cons (by omega)]
      rfl
    rw [hone'] at h1
    have hys : ys[j]? = some (ys[j]'(by omega)) := List.getElem?_eq_getElem (by omega)
    refine ⟨_, _, n', ?_, h1.trans hys⟩
    rw [← Go.Deep.add_add, hcell, hv]

/-- An address from which cells are read has no spot of its own. -/
theorem plain_addr {a : Addr} {k : Nat} {v : Value} (h : w.cell? (a.add k) = some v) (hk : k = 0) : a = ⟨a.block, a.off, none⟩ := by
  subst hk
  obtain ⟨b, o, s⟩ := a
  obtain rfl : s = none := by simpa [Addr.add] using World.cell?_spot h
  rfl

theorem open_tms {t e : TypeId} {f0 f1 f2 : Field} {fuel : Nat} {cs : List Value} {x : DataW H × List MemPlace} (ht : P.underlying t = some (.slice e)) (he : P.underlying e = some (.struct #[f0, f1, f2]))
    (hone : oneCellFields P #[f0, f1, f2] = true) (hC : P.cellsOf e = 3) (h0 : P.underlying f0.type = some .string) (h1 : P.underlying f1.type = some (.int .i64)) (h2 : P.underlying f2.type = some (.int .i64)) (h : DataW.trod enc P w base spare held fuel t cs = some x) :
    ∃ A n c ts, cs = [.slice A n c] ∧ n = ts.length ∧ n ≤ c ∧ c ≤ 9223372036854775807 ∧ RdTm w w.heap.size A ts ∧ ∀ x ∈ ts, K.Tx x.nm ∧ Gm.In x.lv ∧ Gm.In x.wy := by
  rcases open_rows ht he hone hC h with rfl | ⟨a, len, cap, rfl, hl, hm, hi⟩
  · exact ⟨none, 0, 0, [], rfl, rfl, Nat.le_refl _, by omega, fun h => absurd rfl h, fun x hx => by simp at hx⟩
  · have hp : ∀ i, i < len → ∃ t : Gm.Tm, (w.cell? (a.add (i * 3)) = some (.string (K.str t.nm)) ∧ w.cell? (a.add (i * 3 + 1)) = some (.int .i64 t.lv) ∧ w.cell? (a.add (i * 3 + 2)) = some (.int .i64 t.wy)) ∧ K.Tx t.nm ∧ Gm.In t.lv ∧ Gm.In t.wy := fun i hil => by
      obtain ⟨v0, y0, n0, c0, t0⟩ := hi i hil 0 f0 rfl
      obtain ⟨v1, y1, n1, c1, t1⟩ := hi i hil 1 f1 rfl
      obtain ⟨v2, y2, n2, c2, t2⟩ := hi i hil 2 f2 rfl
      obtain ⟨s, e0, _, hs0⟩ := DataW.trod_string h0 t0
      obtain ⟨z1, e1, _, w1⟩ := DataW.trod_int h1 t1
      obtain ⟨z2, e2, _, w2⟩ := DataW.trod_int h2 t2
      injection e0 with e0; injection e1 with e1; injection e2 with e2
      subst e0 e1 e2
      obtain ⟨l, hl, rfl⟩ := K.txt s hs0
      exact ⟨⟨l, z1, z2⟩, ⟨c0, c1, c2⟩, hl, bounds_i64 w1, bounds_i64 w2⟩
    obtain ⟨ts, htl, hts⟩ := list_of len _ hp
    refine ⟨some a, len, cap, ts, rfl, htl.symm, hl, by unfold maxLen at hm; omega, fun hn => ?_, fun x hx => ?_⟩
    · have ha := plain_addr (hts 0 (by omega)).1.1 (Nat.zero_mul 3)
      refine ⟨a.block, a.off, congrArg some ha, ?_, fun i hi => ?_⟩
      · have := block_lt_of_cell (hts 0 (by omega)).1.1
        simpa [Addr.add] using this
      · have := (hts i hi).1
        rw [ha, add_plain, add_plain, add_plain] at this
        exact this
    · obtain ⟨i, hi, rfl⟩ := List.getElem_of_mem hx
      exact (hts i hi).2

theorem open_rls {t e u : TypeId} {f0 f1 f2 : Field} {fuel : Nat} {cs : List Value} {x : DataW H × List MemPlace} (ht : P.underlying t = some (.slice e)) (he : P.underlying e = some (.struct #[f0, f1, f2]))
    (hone : oneCellFields P #[f0, f1, f2] = true) (hC : P.cellsOf e = 3) (h0 : P.underlying f0.type = some (.int .i64)) (h1 : P.underlying f1.type = some (.slice u)) (hu : P.underlying u = some (.int .i64)) (hcu : P.cellsOf u = 1) (h2 : P.underlying f2.type = some (.int .i64)) (h : DataW.trod enc P w base spare held fuel t cs = some x) :
    ∃ A n c rs, cs = [.slice A n c] ∧ n = rs.length ∧ n ≤ c ∧ c ≤ 9223372036854775807 ∧ RdRl w w.heap.size A rs ∧ ∀ x ∈ rs, Gm.In x.l ∧ Gm.In x.p ∧ ∀ z ∈ x.r, Gm.In z := by
  rcases open_rows ht he hone hC h with rfl | ⟨a, len, cap, rfl, hl, hm, hi⟩
  · exact ⟨none, 0, 0, [], rfl, rfl, Nat.le_refl _, by omega, fun h => absurd rfl h, fun x hx => by simp at hx⟩
  · have hp : ∀ i, i < len → ∃ t : Gm.Rl, (w.cell? (a.add (i * 3)) = some (.int .i64 t.l) ∧ (∃ A' c', w.cell? (a.add (i * 3 + 1)) = some (.slice A' t.r.length c') ∧ t.r.length ≤ c' ∧ c' ≤ 9223372036854775807 ∧ RdI w w.heap.size A' t.r) ∧ w.cell? (a.add (i * 3 + 2)) = some (.int .i64 t.p)) ∧ Gm.In t.l ∧ Gm.In t.p ∧ ∀ z ∈ t.r, Gm.In z := fun i hil => by
      obtain ⟨v0, y0, n0, c0, t0⟩ := hi i hil 0 f0 rfl
      obtain ⟨v1, y1, n1, c1, t1⟩ := hi i hil 1 f1 rfl
      obtain ⟨v2, y2, n2, c2, t2⟩ := hi i hil 2 f2 rfl
      obtain ⟨z0, e0, _, w0⟩ := DataW.trod_int h0 t0
      obtain ⟨z2, e2, _, w2⟩ := DataW.trod_int h2 t2
      injection e0 with e0; injection e2 with e2
      subst e0 e2
      rcases open_ints h1 hu hcu t1 with ⟨hcs, _⟩ | ⟨x, l, c, zs, hcs, _, hl, hm, hz, hx, hcell, hwz⟩
      · injection hcs with hcs
        subst hcs
        exact ⟨⟨z0, [], z2⟩, ⟨c0, ⟨none, 0, c1, Nat.le_refl _, by omega, RdI.nil _ _ _⟩, c2⟩, bounds_i64 w0, bounds_i64 w2, fun z hz => by simp at hz⟩
      · injection hcs with hcs
        subst hcs
        have hzl : l ≤ zs.length := by rw [hz]; split <;> omega
        refine ⟨⟨z0, zs.take l, z2⟩, ⟨c0, ⟨some x, c, ?_, ?_, by unfold maxLen at hm; omega, fun hn => ?_⟩, c2⟩, bounds_i64 w0, bounds_i64 w2, fun z hz => bounds_i64 (hwz z (List.mem_of_mem_take hz))⟩
        · have hln : (zs.take l).length = l := by rw [List.length_take]; omega
          show w.cell? (a.add (i * 3 + 1)) = some (.slice (some x) (zs.take l).length c)
          rw [hln]; exact c1
        · show (zs.take l).length ≤ c
          rw [List.length_take]; omega
        · have hl0 : 0 < zs.length := by simp at hn; omega
          have ha := plain_addr (hcell 0 hl0) rfl
          refine ⟨x.block, x.off, congrArg some ha, ?_, fun j hj => ?_⟩
          · have := block_lt_of_cell (hcell 0 hl0)
            simpa [Addr.add] using this
          · have hj' : j < l := by simp at hj; omega
            have h1 := hcell j (by omega)
            rw [ha, add_plain] at h1
            rw [h1]
            simp only [List.getD, List.getElem?_take]
            rw [if_pos hj']
    obtain ⟨ts, htl, hts⟩ := list_of len _ hp
    refine ⟨some a, len, cap, ts, rfl, htl.symm, hl, by unfold maxLen at hm; omega, fun hn => ?_, fun x hx => ?_⟩
    · have ha := plain_addr (hts 0 (by omega)).1.1 (Nat.zero_mul 3)
      refine ⟨a.block, a.off, congrArg some ha, ?_, fun i hi => ?_⟩
      · have := block_lt_of_cell (hts 0 (by omega)).1.1
        simpa [Addr.add] using this
      · have := (hts i hi).1
        rw [ha, add_plain, add_plain, add_plain] at this
        exact this
    · obtain ⟨i, hi, rfl⟩ := List.getElem_of_mem hx
      exact (hts i hi).2

theorem open_txs {t e : TypeId} {fuel : Nat} {cs : List Value} {x : DataW H × List MemPlace} (ht : P.underlying t = some (.slice e)) (he : P.underlying e = some .string) (hC : P.cellsOf e = 1) (h : DataW.trod enc P w base spare held fuel t cs = some x) :
    ∃ A n c ns, cs = [.slice A n c] ∧ n = ns.length ∧ n ≤ c ∧ c ≤ 9223372036854775807 ∧ RdN w w.heap.size A ns ∧ ∀ x ∈ ns, K.Tx x := by
  rcases open_strings ht he hC h with ⟨hcs, _⟩ | ⟨x, l, c, ss, hcs, _, hl, hm, hz, _, hcell, hsz⟩
  · exact ⟨none, 0, 0, [], hcs, rfl, Nat.le_refl _, by omega, fun h => absurd rfl h, fun x hx => by simp at hx⟩
  · have hzl : l ≤ ss.length := by rw [hz]; split <;> omega
    have hp : ∀ i, i < l → ∃ t : List Int, w.cell? (x.add i) = some (.string (K.str t)) ∧ K.Tx t := fun i hi => by
      obtain ⟨t, ht, he⟩ := K.txt (ss.getD i ByteArray.empty) (hsz _ (by rw [List.getD_eq_getElem?_getD, List.getElem?_eq_getElem (by omega)]; exact List.getElem_mem _))
      exact ⟨t, by rw [hcell i (by omega), he], ht⟩
    obtain ⟨ns, hnl, hns⟩ := list_of l _ hp
    refine ⟨some x, l, c, ns, hcs, hnl.symm, hl, by unfold maxLen at hm; omega, fun hn => ?_, fun y hy => ?_⟩
    · have ha := plain_addr (hns 0 (by omega)).1 rfl
      refine ⟨x.block, x.off, congrArg some ha, ?_, fun j hj => ?_⟩
      · have := block_lt_of_cell (hns 0 (by omega)).1
        simpa [Addr.add] using this
      · have h1 := (hns j hj).1
        rw [ha, add_plain] at h1
        exact h1
    · obtain ⟨i, hi, rfl⟩ := List.getElem_of_mem hy
      exact (hns i hi).2

/-- A grammar that is handed in is one, and each of its numbers has 64 bits. -/
theorem open_gram {r : Reach} {b0 : Nat} {t e1 e2 e3 u : TypeId} {f0 f1 f2 f3 x0 x1 x2 y0 y1 y2 : Field} {v : Value} {d : DataW H} {p : List MemPlace} (hs : P.underlying t = some (.struct #[f0, f1, f2, f3])) (hone : oneCellFields P #[f0, f1, f2, f3] = true) (hC : P.cellsOf t = 4)
    (hf0 : P.underlying f0.type = some (.slice e1)) (he1 : P.underlying e1 = some (.struct #[x0, x1, x2])) (ho1 : oneCellFields P #[x0, x1, x2] = true) (hc1 : P.cellsOf e1 = 3) (hx0 : P.underlying x0.type = some .string) (hx1 : P.underlying x1.type = some (.int .i64)) (hx2 : P.underlying x2.type = some (.int .i64))
    (hf1 : P.underlying f1.type = some (.slice e2)) (he2 : P.underlying e2 = some .string) (hc2 : P.cellsOf e2 = 1)
    (hf2 : P.underlying f2.type = some (.slice e3)) (he3 : P.underlying e3 = some (.struct #[y0, y1, y2])) (ho3 : oneCellFields P #[y0, y1, y2] = true) (hc3 : P.cellsOf e3 = 3) (hy0 : P.underlying y0.type = some (.int .i64)) (hy1 : P.underlying y1.type = some (.slice u)) (hu : P.underlying u = some (.int .i64)) (hcu : P.cellsOf u = 1) (hy2 : P.underlying y2.type = some (.int .i64))
    (hf3 : P.underlying f3.type = some (.int .i64))
    (hv : Value.okWide P w r b0 t v) (h : DataW.Trod enc P w base spare held t v d p) :
    ∃ G, RdGr w w.heap.size v G ∧ Gm.Fit G := by
  obtain ⟨v0, v1, v2, v3, y0', y1', y2', y3', n, rfl, _, _, k0, k1, k2, k3⟩ := open_agg4 hs hone hC hv h
  obtain ⟨AT, nT, cT, ts, e0, hn0, l0, m0, r0, w0⟩ := open_tms hf0 he1 ho1 hc1 hx0 hx1 hx2 k0
  obtain ⟨AR, nR, cR, rs, e2', hn2, l2, m2, r2, w2⟩ := open_rls hf2 he3 ho3 hc3 hy0 hy1 hu hcu hy2 k2
  obtain ⟨z, e3', _, w3⟩ := DataW.trod_int hf3 k3
  obtain ⟨AN, nN, cN, ns, e1', hn1, l1, m1, r1, w1⟩ := open_txs hf1 he2 hc2 k1
  injection e0 with e0; injection e1' with e1'; injection e2' with e2'; injection e3' with e3'
  subst e0 e1' e2' e3' hn0 hn1 hn2
  exact ⟨⟨ts, ns, rs, z⟩, ⟨AT, cT, AN, cN, AR, cR, rfl, ⟨l0, m0⟩, ⟨l1, m1⟩, ⟨l2, m2⟩, r0, r1, r2⟩, ⟨w0, w1, w2, bounds_i64 w3⟩⟩
end
end Go.Proofs.YtfiijndmlmddbaaGreat

namespace Go.Proofs.YtfiijndmlmddbaaGreat.RowKit
open Go.ChangeShapes Go.WideShapes Go.ChangeAt Go.RowKit

theorem own : ownKnob Tryz.prog.godebug = none := by kernel_rfl
theorem laidOut : laidOutB Tryz.prog = true := by kernel_rfl
end Go.Proofs.YtfiijndmlmddbaaGreat.RowKit
