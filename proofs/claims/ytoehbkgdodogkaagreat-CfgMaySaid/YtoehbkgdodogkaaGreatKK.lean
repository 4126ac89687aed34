/- The statements' fixed texts of cfg over this program. -/
import Derived.Test.YtoehbkgdodogkaaGreatKJ
import Derived.Test.YtoehbkgdodogkaaGreatKF
import Derived.Test.YtoehbkgdodogkaaGreatKB
import Derived.Test.YtoehbkgdodogkaaGreatKC
namespace Go.Proofs.YtoehbkgdodogkaaGreat
set_option maxRecDepth 100000
open Go.RowKit

def ec1 : List Int := [37, 37, 32, 115, 32, 58, 32, 39, 97, 39, 32, 115, 32, 124, 32, 59]
def ec2 : List Int := [37, 116, 111, 107, 101, 110, 32, 78, 10, 37, 108, 101, 102, 116, 32, 39, 43, 39, 10, 37, 115, 116, 97, 114, 116, 32, 116, 10, 37, 37, 10, 101, 32, 58, 32, 101, 32, 39, 43, 39, 32, 101, 32, 124, 32, 78, 32, 37, 112, 114, 101, 99, 32, 39, 43, 39, 32, 59, 10, 116, 32, 58, 32, 101, 32, 59]
def ec3 : List Int := [37, 37, 32, 115, 32, 58, 32, 113, 32, 59]
def gc1 : Gm.Gr := ⟨[⟨[39, 97, 39], 0, 0⟩], [[115]], [⟨0, [0, -1], 0⟩, ⟨0, [], -1⟩], 0⟩
def gc2 : Gm.Gr := ⟨[⟨[78], 0, 0⟩, ⟨[39, 43, 39], 1, 1⟩], [[101], [116]], [⟨0, [-1, 1, -1], 1⟩, ⟨0, [0], 1⟩, ⟨1, [-1], -1⟩], 1⟩
theorem rde1 : rd ec1 = some (.ok gc1) := by kernel_rfl
theorem rde2 : rd ec2 = some (.ok gc2) := by kernel_rfl
theorem rde3 : rd ec3 = some (.bad ⟨1, [113], 7⟩ 6) := by kernel_rfl
theorem fl_89 : Fl.fl 8 = 4620693217682128896 := by decide +kernel
theorem str_t : K.str [116] = ⟨#[116]⟩ := by decide
theorem str_n : K.str (Gm.name gc2 0) = ⟨#[78]⟩ := by decide +kernel
theorem str_p : K.str [39, 43, 39] = ⟨#[39, 43, 39]⟩ := by decide
theorem look_t : Gm.look gc2 [116] = (-2, true) := by kernel_rfl
theorem right_t : Gm.right gc2 = true := by kernel_rfl
theorem has_t : Gm.has gc2 (-2) = true ∧ Gm.has gc2 (-3) = false := ⟨by kernel_rfl, by kernel_rfl⟩
theorem read_const (b : List Int) (hb : K.Bytes b) (hn : b.length ≤ 4000) (w : World) (hm : ML w) (n : Nat) (hw : n = w.heap.size) :
    Calls Tryz.prog 15 #[.slice (some ⟨n, 0, none⟩) b.length b.length] (w.alloc (cellsM b)) fun e w' => ReadAns b w' e ∧ Below w.heap.size w w' := by
  subst hw
  obtain ⟨r1, r2⟩ := litM w b
  exact (read_any _ b.length b _ r1 hb (Nat.le_refl _) hn (hm.up r2)).mono fun e w' h => ⟨h.1, r2.trans (h.2.mono r2.size)⟩
theorem rdp1 (w : World) (hm : ML w) (n : Nat) (hw : n = w.heap.size) : Calls Tryz.prog 15 #[.slice (some ⟨n, 0, none⟩) 16 16] (w.alloc (cellsM ec1)) fun e w' => ∃ AT cT AN cN AR cR, e = .returned (.tuple #[.agg #[.slice AT 1 cT, .slice AN 1 cN, .slice AR 2 cR, .int .i64 0], .complex .f64 0 0, .int .i64 0]) ∧ RdRl w' w'.heap.size AR gc1.rs ∧ Below w.heap.size w w' := by
  refine (read_const ec1 (bytes_lit _ (by decide)) (by decide) w hm n hw).mono fun e w' h => ?_
  unfold ReadAns at h
  rw [rde1] at h
  obtain ⟨⟨v, he, hg⟩, hb⟩ := h
  obtain ⟨AT, cT, AN, cN, AR, cR, rfl, _, _, _, _, _, hr⟩ := hg.rd
  exact ⟨AT, cT, AN, cN, AR, cR, he, hr, hb⟩
theorem rdp2 (w : World) (hm : ML w) (n : Nat) (hw : n = w.heap.size) : Calls Tryz.prog 15 #[.slice (some ⟨n, 0, none⟩) 66 66] (w.alloc (cellsM ec2)) fun e w' => ∃ AT cT AN cN AR cR, e = .returned (.tuple #[.agg #[.slice AT 2 cT, .slice AN 2 cN, .slice AR 3 cR, .int .i64 1], .complex .f64 0 0, .int .i64 0]) ∧ RdGr w' w'.heap.size (.agg #[.slice AT 2 cT, .slice AN 2 cN, .slice AR 3 cR, .int .i64 1]) gc2 ∧ RdTm w' w'.heap.size AT gc2.ts ∧ RdRl w' w'.heap.size AR gc2.rs ∧ Below w.heap.size w w' := by
  refine (read_const ec2 (bytes_lit _ (by decide)) (by decide) w hm n hw).mono fun e w' h => ?_
  unfold ReadAns at h
  rw [rde2] at h
  obtain ⟨⟨v, he, hg⟩, hb⟩ := h
  have hg0 := hg.rd
  obtain ⟨AT, cT, AN, cN, AR, cR, rfl, _, _, _, ht, _, hr⟩ := hg.rd
  exact ⟨AT, cT, AN, cN, AR, cR, he, hg0, ht, hr, hb⟩
theorem rdp3 (w : World) (hm : ML w) (n : Nat) (hw : n = w.heap.size) : Calls Tryz.prog 15 #[.slice (some ⟨n, 0, none⟩) 10 10] (w.alloc (cellsM ec3)) fun e w' => e = .returned (.tuple #[.agg #[.slice none 0 0, .slice none 0 0, .slice none 0 0, .int .i64 0], .complex .f64 4607182418800017408 4620693217682128896, .int .i64 6]) ∧ Below w.heap.size w w' := by
  refine (read_const ec3 (bytes_lit _ (by decide)) (by decide) w hm n hw).mono fun e w' h => ?_
  unfold ReadAns at h
  rw [rde3] at h
  obtain ⟨⟨_, he⟩, hb⟩ := h
  have p : (Pl.pos (ec3.take 7)).1 = 1 ∧ (Pl.pos (ec3.take 7)).2 = 8 := by decide
  unfold rfX rfY at he
  simp only at he
  rw [p.1, p.2, Fl.fl_one, fl_89] at he
  exact ⟨he, hb⟩
theorem build_tm3 (s : ByteArray) (a b : Int) (w : World) : (Instr.build 45 #[(0, .string s), (1, .int .i64 a), (2, .int .i64 b)]).run Tryz.prog w = .ok (.agg #[.string s, .int .i64 a, .int .i64 b]) w := run_build w 45 _ _ (by kernel_rfl)

/-- What is known of a cell stays. -/
theorem cell_on {a b : World} (h : Below a.heap.size a b) {p : Addr} {u : Value} (hu : a.cell? p = some u) : b.cell? p = some u := (h.cell (p := p) (block_lt_of_cell hu)).trans hu
end Go.Proofs.YtoehbkgdodogkaaGreat

/- The statements' fixed fact of cfg over this program: it answers true, whatever the memory. -/
namespace Go.Proofs.YtoehbkgdodogkaaGreat
set_option maxRecDepth 100000
open Go.RowKit

set_option maxHeartbeats 4000000 in
theorem alive9_any (w : World) (hm : ML w) : Calls Tryz.prog 5 #[] w fun e w' => e = .returned (.bool true) ∧ Below w.heap.size w w' := by
  have T1 := hide (rdp1 w hm w.heap.size rfl)
  have T2 := hide (fun (w1 : World) (h1 : Below w.heap.size w w1) (n : Nat) (hw : n = w1.heap.size) => rdp2 w1 (hm.up h1) n hw)
  have T3 := hide (fun (w1 : World) (h1 : Below w.heap.size w w1) (n : Nat) (hw : n = w1.heap.size) => rdp3 w1 (hm.up h1) n hw)
  have V1 := hide (fun w : World => show (convert 33 33 (.slice (some ⟨w.heap.size, 0, none⟩) 16 16)).run Tryz.prog (w.alloc (.cells #[.int .u8 37, .int .u8 37, .int .u8 32, .int .u8 115, .int .u8 32, .int .u8 58, .int .u8 32, .int .u8 39, .int .u8 97, .int .u8 39, .int .u8 32, .int .u8 115, .int .u8 32, .int .u8 124, .int .u8 32, .int .u8 59] 5)) = .ok (.slice (some ⟨w.heap.size, 0, none⟩) 16 16) (w.alloc (cellsM ec1)) from lit_conv w ec1 16 16)
  have V2 := hide (fun w : World => show (convert 33 33 (.slice (some ⟨w.heap.size, 0, none⟩) 66 66)).run Tryz.prog (w.alloc (.cells #[.int .u8 37, .int .u8 116, .int .u8 111, .int .u8 107, .int .u8 101, .int .u8 110, .int .u8 32, .int .u8 78, .int .u8 10, .int .u8 37, .int .u8 108, .int .u8 101, .int .u8 102, .int .u8 116, .int .u8 32, .int .u8 39, .int .u8 43, .int .u8 39, .int .u8 10, .int .u8 37, .int .u8 115, .int .u8 116, .int .u8 97, .int .u8 114, .int .u8 116, .int .u8 32, .int .u8 116, .int .u8 10, .int .u8 37, .int .u8 37, .int .u8 10, .int .u8 101, .int .u8 32, .int .u8 58, .int .u8 32, .int .u8 101, .int .u8 32, .int .u8 39, .int .u8 43, .int .u8 39, .int .u8 32, .int .u8 101, .int .u8 32, .int .u8 124, .int .u8 32, .int .u8 78, .int .u8 32, .int .u8 37, .int .u8 112, .int .u8 114, .int .u8 101, .int .u8 99, .int .u8 32, .int .u8 39, .int .u8 43, .int .u8 39, .int .u8 32, .int .u8 59, .int .u8 10, .int .u8 116, .int .u8 32, .int .u8 58, .int .u8 32, .int .u8 101, .int .u8 32, .int .u8 59] 5)) = .ok (.slice (some ⟨w.heap.size, 0, none⟩) 66 66) (w.alloc (cellsM ec2)) from lit_conv w ec2 66 66)
  have V3 := hide (fun w : World => show (convert 33 33 (.slice (some ⟨w.heap.size, 0, none⟩) 10 10)).run Tryz.prog (w.alloc (.cells #[.int .u8 37, .int .u8 37, .int .u8 32, .int .u8 115, .int .u8 32, .int .u8 58, .int .u8 32, .int .u8 113, .int .u8 32, .int .u8 59] 5)) = .ok (.slice (some ⟨w.heap.size, 0, none⟩) 10 10) (w.alloc (cellsM ec3)) from lit_conv w ec3 10 10)
  have U1 := V1.out w
  have BT := fun s a b w => build_tm3 s a b w
  have hf2 : Gm.Fit gc2 := (rd_built (L := ec2) (bytes_lit _ (by decide)) rde2).t
  have HF2 := hide hf2
  clear hm hf2 V1
  have hs1 : ∀ (x : World) (o : Obj), (x.alloc o).heap.size = x.heap.size + 1 := fun x o => by simp
  have HBA := hide (fun (x : World) (h : Below w.heap.size w x) (o : Obj) => h.alloc h.size o)
  go_enter Tryz.func5, Tryz.ntmps5
  go_wp2_with fail
  refine T1.out.mono ?_; rintro _ w1 ⟨AT1, cT1, AN1, cN1, AR1, cR1, rfl, hr1, hb1⟩
  have HR1 := hide hr1
  have HB1 := hide hb1
  clear hr1 hb1 U1 T1
  have U2 := fun (o : Obj) => V2.out (w1.alloc o)
  simp only [hs1] at U2
  clear V2
  go_wp2_with fail
  refine (T2.out _ (HBA.out _ HB1.out _) _ (hs1 _ _).symm).mono ?_; rintro _ w2 ⟨AT2, cT2, AN2, cN2, AR2, cR2, rfl, hg2, ht2, hr2, hb2⟩
  have HB2 := hide ((HBA.out _ HB1.out _).trans (hb2.mono (HBA.out _ HB1.out _).size))
  have HX2 := hide hb2
  have HG2 := hide hg2
  have HT2 := hide ht2
  have HR2 := hide hr2
  clear U2 hb2 hg2 ht2 hr2 T2
  have U3 := fun (o : Obj) => V3.out (w2.alloc o)
  simp only [hs1] at U3
  clear V3
  go_wp2_with fail
  refine (T3.out _ (HBA.out _ HB2.out _) _ (hs1 _ _).symm).mono ?_; rintro _ w3 ⟨rfl, hb3⟩
  have HB3 := hide ((HBA.out _ HB2.out _).trans (hb3.mono (HBA.out _ HB2.out _).size))
  have HX3 := hide hb3
  clear U3 hb3 T3
  have d3 : Below (w2.alloc (.cells #[.slice AT2 2 cT2, .slice AN2 2 cN2, .slice AR2 3 cR2, .int .i64 1] 26)).heap.size (w2.alloc (.cells #[.slice AT2 2 cT2, .slice AN2 2 cN2, .slice AR2 3 cR2, .int .i64 1] 26)) w3 := HX3.out
  have c2a : Below w2.heap.size w2 (w2.alloc (.cells #[.slice AT2 2 cT2, .slice AN2 2 cN2, .slice AR2 3 cR2, .int .i64 1] 26)) := (Below.refl _ _).alloc (Nat.le_refl _) _
  have d2 : Below w2.heap.size w2 w3 := c2a.trans (d3.mono c2a.size)
  have c12 : Below (w1.alloc (.cells #[.slice AT1 1 cT1, .slice AN1 1 cN1, .slice AR1 2 cR1, .int .i64 0] 26)).heap.size (w1.alloc (.cells #[.slice AT1 1 cT1, .slice AN1 1 cN1, .slice AR1 2 cR1, .int .i64 0] 26)) w2 := HX2.out
  have d1 : Below (w1.alloc (.cells #[.slice AT1 1 cT1, .slice AN1 1 cN1, .slice AR1 2 cR1, .int .i64 0] 26)).heap.size (w1.alloc (.cells #[.slice AT1 1 cT1, .slice AN1 1 cN1, .slice AR1 2 cR1, .int .i64 0] 26)) w3 := c12.trans (d2.mono c12.size)
  have c1a : Below w1.heap.size w1 (w1.alloc (.cells #[.slice AT1 1 cT1, .slice AN1 1 cN1, .slice AR1 2 cR1, .int .i64 0] 26)) := (Below.refl _ _).alloc (Nat.le_refl _) _
  have d0 : Below w1.heap.size w1 w3 := c1a.trans (d1.mono c1a.size)
  obtain ⟨g1, o1, rfl, _, hc1⟩ := HR1.out (by decide)
  obtain ⟨_, ⟨A', c', r1a, _, _, hri⟩, r12⟩ := hc1 0 (by decide)
  obtain ⟨_, _, r15⟩ := hc1 1 (by decide)
  obtain ⟨gz, oz, rfl, _, hz⟩ := hri (by decide)
  have z1 := cell_on d0 (hz 1 (by decide))
  have r1a := cell_on d0 r1a
  have r12 := cell_on d0 r12
  have r15 := cell_on d0 r15
  obtain ⟨g2, o2, rfl, _, ht2⟩ := HT2.out (by decide)
  obtain ⟨m0, m1, m2⟩ := ht2 1 (by decide)
  have m0 := cell_on d2 m0
  have m1 := cell_on d2 m1
  have m2 := cell_on d2 m2
  obtain ⟨g3, o3, rfl, _, hr2⟩ := HR2.out (by decide)
  obtain ⟨_, _, q2⟩ := hr2 1 (by decide)
  have q2 := cell_on d2 q2
  have x1 := heap_alloc_new w1 (.cells #[.slice AT1 1 cT1, .slice AN1 1 cN1, .slice (some ⟨g1, o1, none⟩) 2 cR1, .int .i64 0] 26)
  have e12 := cell_on d1 (cell_of_row _ _ 2 _ _ _ x1)
  have x2 := heap_alloc_new w2 (.cells #[.slice (some ⟨g2, o2, none⟩) 2 cT2, .slice AN2 2 cN2, .slice (some ⟨g3, o3, none⟩) 3 cR2, .int .i64 1] 26)
  have e20 := cell_on d3 (cell_of_row _ _ 0 _ _ _ x2)
  have e21 := cell_on d3 (cell_of_row _ _ 1 _ _ _ x2)
  have e22 := cell_on d3 (cell_of_row _ _ 2 _ _ _ x2)
  have e23 := cell_on d3 (cell_of_row _ _ 3 _ _ _ x2)
  simp only [Nat.zero_mul, Nat.one_mul, Nat.add_zero, gc1, gc2, List.getElem_cons_zero, List.getElem_cons_succ, List.getD_cons_zero, List.getD_cons_succ, List.length_cons, List.length_nil, Nat.zero_add, Nat.reduceAdd, str_p] at z1 r1a r12 r15 m0 m1 m2 q2
  have HG := hide (fun (x : World) (h : Below w3.heap.size w3 x) => HG2.out.below (d2.trans (h.mono d2.size)) (Nat.le_refl _))
  have HS := hide (fun (x : World) (h : Below w3.heap.size w3 x) => Nat.le_trans d2.size h.size)
  have TF := hide (fun (x : World) (h : Below w3.heap.size w3 x) => gfind_any _ gc2 [116] w2.heap.size x (HG.out x h) HF2.out ⟨bytes_lit _ (by decide), by decide⟩ (HS.out x h) (by decide))
  rw [look_t, str_t] at TF
  have TN := hide (fun (x : World) (h : Below w3.heap.size w3 x) => gname_any _ gc2 w2.heap.size 0 (by unfold Gm.In; omega) x (HG.out x h) (HS.out x h))
  rw [str_n] at TN
  have TR := hide (fun (x : World) (h : Below w3.heap.size w3 x) => gright_any _ gc2 w2.heap.size x (HG.out x h) HF2.out (HS.out x h))
  rw [right_t] at TR
  have TH := hide (fun (x : World) (h : Below w3.heap.size w3 x) => has_any _ gc2 w2.heap.size (-2) (by unfold Gm.In; omega) x (HG.out x h))
  rw [has_t.1] at TH
  have TH2 := hide (fun (x : World) (h : Below w3.heap.size w3 x) => has_any _ gc2 w2.heap.size (-3) (by unfold Gm.In; omega) x (HG.out x h))
  rw [has_t.2] at TH2
  have TS := hide (fun (x : World) (h : Below w3.heap.size w3 x) => gsame_any _ _ gc2 gc2 w2.heap.size w2.heap.size x (HG.out x h) (HG.out x h) HF2.out HF2.out (HS.out x h) (HS.out x h))
  rw [Gm.same_self] at TS
  have HE := hide (And.intro (And.intro e20 e21) (And.intro e22 e23))
  have HZ := hide (And.intro (And.intro e12 r1a) (And.intro (And.intro z1 r12) (And.intro r15 (And.intro (And.intro m0 m1) (And.intro m2 q2)))))
  have l1 := block_lt_of_cell e12
  have l2 := block_lt_of_cell e20
  have l3 := block_lt_of_cell r1a
  simp only at l1 l2 l3
  have HW3 := hide (fun o => (Below.refl w3.heap.size w3).alloc (Nat.le_refl _) o)
  have BE : ∀ w : World, (binOp BinOp.eql 45 (.agg #[.string ⟨#[39, 43, 39]⟩, .int .i64 1, .int .i64 1]) (.agg #[.string ⟨#[39, 43, 39]⟩, .int .i64 1, .int .i64 1])).run Tryz.prog w = .ok (.bool true) w := fun _ => by kernel_rfl
  have BC : ∀ w : World, (binOp BinOp.eql 34 (.complex .f64 4607182418800017408 4620693217682128896) (.complex .f64 4607182418800017408 4620693217682128896)).run Tryz.prog w = .ok (.bool true) w := fun _ => by kernel_rfl
  clear d3 c2a d2 c12 d1 c1a d0 hc1 hri hz ht2 hr2 x1 x2 HG2 HX2 HX3 HR1 HT2 HR2 z1 r12 r15 m0 m1 m2 q2
  go_wp2_with fail
  refine (TF.out _ (HW3.out _)).mono ?_; rintro _ w5 ⟨rfl, hb5⟩
  have HB5 := hide ((HW3.out _).trans (hb5.mono (HW3.out _).size))
  have e20 := cell_on HB5.out HE.out.1.1
  have e21 := cell_on HB5.out HE.out.1.2
  have e22 := cell_on HB5.out HE.out.2.1
  have e23 := cell_on HB5.out HE.out.2.2
  have e12 := cell_on HB5.out HZ.out.1.1
  have r1a := cell_on HB5.out HZ.out.1.2
  have z1 := cell_on HB5.out HZ.out.2.1.1
  have r12 := cell_on HB5.out HZ.out.2.1.2
  have r15 := cell_on HB5.out HZ.out.2.2.1
  have m0 := cell_on HB5.out HZ.out.2.2.2.1.1
  have m1 := cell_on HB5.out HZ.out.2.2.2.1.2
  have m2 := cell_on HB5.out HZ.out.2.2.2.2.1
  have q2 := cell_on HB5.out HZ.out.2.2.2.2.2
  clear hb5
  go_wp2_with fail
  refine (TN.out _ HB5.out).mono ?_; rintro _ w6 ⟨rfl, hb6⟩
  have HB6 := hide (HB5.out.trans (hb6.mono HB5.out.size))
  have e20 := cell_on HB6.out HE.out.1.1
  have e21 := cell_on HB6.out HE.out.1.2
  have e22 := cell_on HB6.out HE.out.2.1
  have e23 := cell_on HB6.out HE.out.2.2
  clear hb6
  go_wp2_with fail
  refine (TR.out _ HB6.out).mono ?_; rintro _ w7 ⟨rfl, hb7⟩
  have HB7 := hide (HB6.out.trans (hb7.mono HB6.out.size))
  have e20 := cell_on HB7.out HE.out.1.1
  have e21 := cell_on HB7.out HE.out.1.2
  have e22 := cell_on HB7.out HE.out.2.1
  have e23 := cell_on HB7.out HE.out.2.2
  clear hb7
  go_wp2_with fail
  refine (TH.out _ HB7.out).mono ?_; rintro _ w8 ⟨rfl, hb8⟩
  have HB8 := hide (HB7.out.trans (hb8.mono HB7.out.size))
  have e20 := cell_on HB8.out HE.out.1.1
  have e21 := cell_on HB8.out HE.out.1.2
  have e22 := cell_on HB8.out HE.out.2.1
  have e23 := cell_on HB8.out HE.out.2.2
  clear hb8
  go_wp2_with fail
  refine (TH2.out _ HB8.out).mono ?_; rintro _ w9 ⟨rfl, hb9⟩
  have HB9 := hide (HB8.out.trans (hb9.mono HB8.out.size))
  have e20 := cell_on HB9.out HE.out.1.1
  have e21 := cell_on HB9.out HE.out.1.2
  have e22 := cell_on HB9.out HE.out.2.1
  have e23 := cell_on HB9.out HE.out.2.2
  clear hb9
  go_wp2_with fail
  refine (TS.out _ HB9.out).mono ?_; rintro _ w10 ⟨rfl, hb10⟩
  have HB10 := hide (HB9.out.trans (hb10.mono HB9.out.size))
  have e20 := cell_on HB10.out HE.out.1.1
  have e21 := cell_on HB10.out HE.out.1.2
  have e22 := cell_on HB10.out HE.out.2.1
  have e23 := cell_on HB10.out HE.out.2.2
  clear hb10
  go_wp2
  go_ret
  exact ⟨rfl, HB3.out.trans (HB10.out.mono HB3.out.size)⟩
end Go.Proofs.YtoehbkgdodogkaaGreat
