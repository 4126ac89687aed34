/- The statements' fixed fact of yacc over this program: it answers true, whatever the memory. -/
import Derived.Test.YtgmcpkecppfkgaaYaccSame
import Derived.Test.YtgmcpkecppfkgaaYaccPure
namespace Go.Proofs.Ytgmcpkecppfkgaa
set_option maxRecDepth 100000
open Go.RowKit

theorem parse_const (b : List Int) (hb : K.Bytes b) (hn : b.length ≤ 4000) (w : World) (hm : ML w) (n : Nat) (hw : n = w.heap.size) :
    Calls Try.prog 5 #[.slice (some ⟨n, 0, none⟩) b.length b.length] (w.alloc (cellsM b)) (ParseAns b (w.alloc (cellsM b)) (toks b)) := by
  subst hw
  obtain ⟨r1, r2⟩ := litM w b
  exact parse_any _ b.length b _ r1 hb (Nat.le_refl _) hn (hm.up r2)
def ey1 : List Int := [37, 116, 111, 107, 101, 110, 32, 78, 32, 37, 37, 32, 101, 32, 58, 32, 101, 32, 39, 43, 39, 32, 101, 32, 124, 32, 78, 32, 37, 112, 114, 101, 99, 32, 39, 43, 39, 32, 59]
def ey2 : List Int := [37, 116, 111, 107, 101, 110, 32, 37, 37]
def ey3 : List Int := [37, 37, 32, 101, 32, 58, 32]
def ey4 : List Int := [37, 37, 32, 101, 32, 58, 32, 59, 32, 37, 37, 32]
def ty1 : List Tok := [⟨3, [], 0⟩, ⟨1, [78], 7⟩, ⟨9, [], 9⟩, ⟨1, [101], 12⟩, ⟨10, [], 14⟩, ⟨1, [101], 16⟩, ⟨2, [39, 43, 39], 18⟩, ⟨1, [101], 22⟩, ⟨11, [], 24⟩, ⟨1, [78], 26⟩, ⟨8, [], 28⟩, ⟨2, [39, 43, 39], 34⟩, ⟨12, [], 38⟩]
def ty2 : List Tok := [⟨3, [], 0⟩, ⟨9, [], 7⟩]
def ty3 : List Tok := [⟨9, [], 0⟩, ⟨1, [101], 3⟩, ⟨10, [], 5⟩]
def ty4 : List Tok := [⟨9, [], 0⟩, ⟨1, [101], 3⟩, ⟨10, [], 5⟩, ⟨12, [], 7⟩, ⟨9, [], 9⟩]
theorem tky1 : toks ey1 = .ok ty1 := by kernel_rfl
theorem tky2 : toks ey2 = .ok ty2 := by kernel_rfl
theorem tky3 : toks ey3 = .ok ty3 := by kernel_rfl
theorem tky4 : toks ey4 = .ok ty4 := by kernel_rfl
def sd1 : List Y.Dcl := [⟨3, [⟨1, [78], 7⟩]⟩]
def sp1 : List Y.Prd := [⟨⟨1, [101], 12⟩, [⟨1, [101], 16⟩, ⟨2, [39, 43, 39], 18⟩, ⟨1, [101], 22⟩], none⟩, ⟨⟨1, [101], 12⟩, [⟨1, [78], 26⟩], some ⟨2, [39, 43, 39], 34⟩⟩]
def sp4 : List Y.Prd := [⟨⟨1, [101], 3⟩, [], none⟩]
theorem sy1 : Y.source ty1 = .ok (sd1, sp1) [] := by kernel_rfl
theorem sy2 : Y.source ty2 = .bad (some ⟨9, [], 7⟩) := by kernel_rfl
theorem sy3 : Y.source ty3 = .bad none := by kernel_rfl
theorem sy4 : Y.source ty4 = .ok ([], sp4) [] := by kernel_rfl
theorem fl_8 : Fl.fl 8 = 4620693217682128896 := by decide +kernel
theorem fl_13 : Fl.fl 13 = 4623507967449235456 := by decide +kernel

/-- What the first text's source is: where its parts lie. -/
theorem par1 (w : World) (hm : ML w) : Calls Try.prog 5 #[.slice (some ⟨w.heap.size, 0, none⟩) 39 39] (w.alloc (cellsM ey1)) fun e w' => ∃ dv pv, e = .returned (.tuple #[.agg #[dv, pv], .complex .f64 0 0, .int .i64 0]) ∧ OwnD ey1 w' w.heap.size dv sd1 ∧ OwnP ey1 w' w.heap.size pv sp1 ∧ Below w.heap.size w w' := by
  refine (parse_const ey1 (bytes_lit _ (by decide)) (by decide) w hm _ rfl).mono fun e w' h => ?_
  rw [tky1] at h
  unfold ParseAns at h
  simp only at h
  rw [sy1] at h
  obtain ⟨hb, dv, pv, he, h1, h2⟩ := h
  have r2 := (litM w ey1).2
  exact ⟨dv, pv, he, h1.less r2.size, h2.less r2.size, r2.trans (hb.mono r2.size)⟩
theorem par2 (w : World) (hm : ML w) (n : Nat) (hw : n = w.heap.size) : Calls Try.prog 5 #[.slice (some ⟨n, 0, none⟩) 9 9] (w.alloc (cellsM ey2)) fun e w' => e = .returned (.tuple #[.agg #[.slice none 0 0, .slice none 0 0], .complex .f64 4607182418800017408 4620693217682128896, .int .i64 3]) ∧ Below w.heap.size w w' := by
  refine (parse_const ey2 (bytes_lit _ (by decide)) (by decide) w hm n hw).mono fun e w' h => ?_
  rw [tky2] at h
  unfold ParseAns at h
  simp only at h
  rw [sy2] at h
  obtain ⟨hb, he⟩ := h
  have r2 := (litM w ey2).2
  have p : (Pl.pos (ey2.take 7)).1 = 1 ∧ (Pl.pos (ey2.take 7)).2 = 8 := by decide
  simp only at he
  rw [p.1, p.2, Fl.fl_one, fl_8] at he
  exact ⟨he, r2.trans (hb.mono r2.size)⟩
theorem par3 (w : World) (hm : ML w) (n : Nat) (hw : n = w.heap.size) : Calls Try.prog 5 #[.slice (some ⟨n, 0, none⟩) 7 7] (w.alloc (cellsM ey3)) fun e w' => e = .returned (.tuple #[.agg #[.slice none 0 0, .slice none 0 0], .complex .f64 4607182418800017408 4620693217682128896, .int .i64 4]) ∧ Below w.heap.size w w' := by
  refine (parse_const ey3 (bytes_lit _ (by decide)) (by decide) w hm n hw).mono fun e w' h => ?_
  rw [tky3] at h
  unfold ParseAns at h
  simp only at h
  rw [sy3] at h
  obtain ⟨hb, he⟩ := h
  have r2 := (litM w ey3).2
  have p : (Pl.pos ey3).1 = 1 ∧ (Pl.pos ey3).2 = 8 := by decide
  simp only at he
  rw [p.1, p.2, Fl.fl_one, fl_8] at he
  exact ⟨he, r2.trans (hb.mono r2.size)⟩
theorem par4 (w : World) (hm : ML w) (n : Nat) (hw : n = w.heap.size) : Calls Try.prog 5 #[.slice (some ⟨n, 0, none⟩) 12 12] (w.alloc (cellsM ey4)) fun e w' => ∃ A1 c1 A2 c2, e = .returned (.tuple #[.agg #[.slice A1 0 c1, .slice A2 1 c2], .complex .f64 0 0, .int .i64 0]) ∧ Below w.heap.size w w' := by
  refine (parse_const ey4 (bytes_lit _ (by decide)) (by decide) w hm n hw).mono fun e w' h => ?_
  rw [tky4] at h
  unfold ParseAns at h
  simp only at h
  rw [sy4] at h
  obtain ⟨hb, dv, pv, he, h1, h2⟩ := h
  obtain ⟨A1, c1, rfl, _, _⟩ := h1.form
  obtain ⟨A2, c2, rfl, _, _⟩ := h2.form
  have r2 := (litM w ey4).2
  exact ⟨A1, c1, A2, c2, he, r2.trans (hb.mono r2.size)⟩

set_option maxHeartbeats 4000000 in
theorem alive8_any (w : World) (hm : ML w) : Calls Try.prog 4 #[] w fun e w' => e = .returned (.bool true) ∧ Below w.heap.size w w' := by
  have T1 := hide (par1 w hm)
  have T2 := hide (fun (w1 : World) (h1 : Below w.heap.size w w1) (n : Nat) (hw : n = w1.heap.size) => par2 w1 (hm.up h1) n hw)
  have T3 := hide (fun (w1 : World) (h1 : Below w.heap.size w w1) (n : Nat) (hw : n = w1.heap.size) => par3 w1 (hm.up h1) n hw)
  have T4 := hide (fun (w1 : World) (h1 : Below w.heap.size w w1) (n : Nat) (hw : n = w1.heap.size) => par4 w1 (hm.up h1) n hw)
  have V1 := fun w : World => show (convert 22 22 (.slice (some ⟨w.heap.size, 0, none⟩) 39 39)).run Try.prog (w.alloc (.cells #[.int .u8 37, .int .u8 116, .int .u8 111, .int .u8 107, .int .u8 101, .int .u8 110, .int .u8 32, .int .u8 78, .int .u8 32, .int .u8 37, .int .u8 37, .int .u8 32, .int .u8 101, .int .u8 32, .int .u8 58, .int .u8 32, .int .u8 101, .int .u8 32, .int .u8 39, .int .u8 43, .int .u8 39, .int .u8 32, .int .u8 101, .int .u8 32, .int .u8 124, .int .u8 32, .int .u8 78, .int .u8 32, .int .u8 37, .int .u8 112, .int .u8 114, .int .u8 101, .int .u8 99, .int .u8 32, .int .u8 39, .int .u8 43, .int .u8 39, .int .u8 32, .int .u8 59] 5)) = .ok (.slice (some ⟨w.heap.size, 0, none⟩) 39 39) (w.alloc (cellsM ey1)) from lit_conv w ey1 39 39
  have V2 := hide (fun w : World => show (convert 22 22 (.slice (some ⟨w.heap.size, 0, none⟩) 9 9)).run Try.prog (w.alloc (.cells #[.int .u8 37, .int .u8 116, .int .u8 111, .int .u8 107, .int .u8 101, .int .u8 110, .int .u8 32, .int .u8 37, .int .u8 37] 5)) = .ok (.slice (some ⟨w.heap.size, 0, none⟩) 9 9) (w.alloc (cellsM ey2)) from lit_conv w ey2 9 9)
  have V3 := hide (fun w : World => show (convert 22 22 (.slice (some ⟨w.heap.size, 0, none⟩) 7 7)).run Try.prog (w.alloc (.cells #[.int .u8 37, .int .u8 37, .int .u8 32, .int .u8 101, .int .u8 32, .int .u8 58, .int .u8 32] 5)) = .ok (.slice (some ⟨w.heap.size, 0, none⟩) 7 7) (w.alloc (cellsM ey3)) from lit_conv w ey3 7 7)
  have V4 := hide (fun w : World => show (convert 22 22 (.slice (some ⟨w.heap.size, 0, none⟩) 12 12)).run Try.prog (w.alloc (.cells #[.int .u8 37, .int .u8 37, .int .u8 32, .int .u8 101, .int .u8 32, .int .u8 58, .int .u8 32, .int .u8 59, .int .u8 32, .int .u8 37, .int .u8 37, .int .u8 32] 5)) = .ok (.slice (some ⟨w.heap.size, 0, none⟩) 12 12) (w.alloc (cellsM ey4)) from lit_conv w ey4 12 12)
  clear hm
  go_enter Try.func4, Try.ntmps4
  go_wp2_with fail
  refine T1.out.mono ?_; rintro _ w1 ⟨dv, pv, rfl, hod, hop, hb1⟩
  obtain ⟨D, c1, A1, c1', rfl, kd0, kd1, _⟩ := hod.at 0 (by decide)
  obtain ⟨PB, c2, A2, c2', rfl, hc0, _⟩ := hop.at 0 (by decide)
  obtain ⟨PB', c3, A3, c3', hv, hc1, _⟩ := hop.at 1 (by decide)
  injection hv with e1 e2 e3
  injection e1 with e1
  injection e1 with e1
  subst e1
  subst e3
  have k20 : w1.cell? ⟨PB, 0, none⟩ = some (.string (K.str [101])) := hc0 0 _ (by omega) rfl
  have k21 : w1.cell? ⟨PB, 1, none⟩ = some (.complex .f64 (Fl.fl (Pl.pos (ey1.take 12)).1) (Fl.fl (Pl.pos (ey1.take 12)).2)) := hc0 1 _ (by omega) rfl
  have k22 : w1.cell? ⟨PB, 2, none⟩ = some (.slice A2 3 c2') := hc0 2 _ (by omega) rfl
  have k38 : w1.cell? ⟨PB, 8, none⟩ = some (.string (K.str [39, 43, 39])) := hc1 3 _ (by omega) rfl
  have kd0' : w1.cell? ⟨D, 0, none⟩ = some (.int .i64 3) := kd0
  have pp : (Pl.pos (ey1.take 12)).1 = 1 ∧ (Pl.pos (ey1.take 12)).2 = 13 := by decide
  rw [pp.1, pp.2, Fl.fl_one, fl_13] at k21
  have HK := hide (fun (x : World) (h : Below w1.heap.size w1 x) (p : Addr) (u : Value) (hu : w1.cell? p = some u) => (h.cell (p := p) (block_lt_of_cell hu)).trans hu)
  have HKS := hide (And.intro (And.intro k20 k21) (And.intro k22 (And.intro k38 kd0')))
  have HOD := hide hod
  have HOP := hide hop
  have HB1 := hide hb1
  have HBA := hide (fun (x : World) (h : Below w.heap.size w x) (o : Obj) => h.alloc h.size o)
  clear hod hop hb1 kd0 kd1 kd0' hc0 hc1 k20 k21 k22 k38 pp
  have hs1 : ∀ (x : World) (o : Obj), (x.alloc o).heap.size = x.heap.size + 1 := fun x o => by simp
  have U2 := fun (o : Obj) => V2.out (w1.alloc o)
  simp only [hs1] at U2
  clear V1 V2
  go_wp2_with fail
  refine (T2.out _ (HBA.out _ HB1.out _) _ (hs1 _ _).symm).mono ?_; rintro _ w2 ⟨rfl, hb2⟩
  have HB2 := hide ((HBA.out _ HB1.out _).trans (hb2.mono (HBA.out _ HB1.out _).size))
  have hx2 := hide hb2
  have U3 := fun (o : Obj) => V3.out (w2.alloc o)
  simp only [hs1] at U3
  clear V3 U2 hb2
  go_wp2_with fail
  refine (T3.out _ (HBA.out _ HB2.out _) _ (hs1 _ _).symm).mono ?_; rintro _ w3 ⟨rfl, hb3⟩
  have HB3 := hide ((HBA.out _ HB2.out _).trans (hb3.mono (HBA.out _ HB2.out _).size))
  have hx3 := hide hb3
  have U4 := fun (o : Obj) => V4.out (w3.alloc o)
  simp only [hs1] at U4
  clear V4 U3 hb3
  go_wp2_with fail
  refine (T4.out _ (HBA.out _ HB3.out _) _ (hs1 _ _).symm).mono ?_; rintro _ w4 ⟨B1, d1, B2, d2, rfl, hb4⟩
  have HB4 := hide ((HBA.out _ HB3.out _).trans (hb4.mono (HBA.out _ HB3.out _).size))
  have hx4 := hide hb4
  clear U4 hb4 T1 T2 T3 T4
  have z2 := hx2.out
  have z3 := (z2.alloc z2.size _).trans (hx3.out.mono (z2.alloc z2.size _).size)
  have z4 := (z3.alloc z3.size _).trans (hx4.out.mono (z3.alloc z3.size _).size)
  have hsb : w4.heap[w1.heap.size]? = some (.cells #[.slice (some ⟨D, 0, none⟩) sd1.length c1, .slice (some ⟨PB, 0, none⟩) sp1.length c2] 27 (0, 0)) := (z4.block w1.heap.size (by simp)).trans (heap_alloc_new w1 _)
  have HW : Hid (Below w1.heap.size w1 w4) := hide (((Below.refl w1.heap.size w1).alloc (Nat.le_refl _) _).trans (z4.mono (by simp)))
  have s0 := cell_of_row w4 _ 0 _ _ _ hsb
  have s1 := cell_of_row w4 _ 1 _ _ _ hsb
  have hsl : w1.heap.size < w4.heap.size := (Array.getElem?_eq_some_iff.1 hsb).1
  obtain ⟨⟨k20, k21⟩, k22, k38, kd0⟩ := HKS.out
  have k20 := HK.out w4 HW.out _ _ k20
  have k21 := HK.out w4 HW.out _ _ k21
  have k22 := HK.out w4 HW.out _ _ k22
  have k38 := HK.out w4 HW.out _ _ k38
  have kd0 := HK.out w4 HW.out _ _ kd0
  have hPl : PB < w4.heap.size := block_lt_of_cell k20
  have hDl : D < w4.heap.size := block_lt_of_cell kd0
  have HSM := hide (fun (x : World) (h : Below w1.heap.size w1 x) => same_any ey1 (.slice (some ⟨D, 0, none⟩) sd1.length c1) (.slice (some ⟨PB, 0, none⟩) sp1.length c2) sd1 sp1 x w.heap.size (HOD.out.grown (only_below h .none) (Away.none _ _)) (HOP.out.grown (only_below h .none) (Away.none _ _)) (by decide) (by decide) (by decide) (by intro d hd; simp [sd1] at hd; subst hd; exact ⟨by decide, by decide⟩) (by
    intro d hd
    simp [sp1] at hd
    rcases hd with rfl | rfl
    · exact ⟨by decide, by decide, by decide, fun t ht => by cases ht⟩
    · exact ⟨by decide, by decide, by decide, fun t ht => by injection ht with ht; subst ht; decide⟩))
  have HWA := hide (fun (o : Obj) => HW.out.alloc HW.out.size o)
  have HF := hide (fun (o : Obj) => HBA.out _ HB4.out o)
  have Q0 : ∀ w : World, (binOp BinOp.eql 28 (.complex .f64 0 0) (.complex .f64 0 0)).run Try.prog w = .ok (.bool true) w := fun _ => by kernel_rfl
  have Q8 : ∀ w : World, (binOp BinOp.eql 28 (.complex .f64 4607182418800017408 4620693217682128896) (.complex .f64 4607182418800017408 4620693217682128896)).run Try.prog w = .ok (.bool true) w := fun _ => by kernel_rfl
  have QR : ∀ w : World, (binOp BinOp.eql 40 (.agg #[.string ⟨#[101]⟩, .complex .f64 4607182418800017408 4623507967449235456]) (.agg #[.string ⟨#[101]⟩, .complex .f64 4607182418800017408 4623507967449235456])).run Try.prog w = .ok (.bool true) w := fun _ => by kernel_rfl
  rw [show K.str [101] = ⟨#[101]⟩ from rfl] at k20
  rw [show K.str [39, 43, 39] = ⟨#[39, 43, 39]⟩ from rfl] at k38
  rw [show sd1.length = 1 from rfl, show sp1.length = 2 from rfl] at HSM
  rw [show sd1.length = 1 from rfl] at s0
  rw [show sp1.length = 2 from rfl] at s1
  clear HKS HK HOD HOP HB1 HB2 HB3 HB4 HBA hx2 hx3 hx4 z2 z3 z4 hsb HW hs1
  go_wp2_with fail
  refine (HSM.out _ (HWA.out _)).mono ?_; rintro _ w5 ⟨rfl, hb5⟩
  have HZ := hide ((HF.out _).trans (hb5.mono (HF.out _).size))
  clear hb5
  go_wp2
  go_ret
  exact ⟨rfl, HZ.out⟩
end Go.Proofs.Ytgmcpkecppfkgaa
