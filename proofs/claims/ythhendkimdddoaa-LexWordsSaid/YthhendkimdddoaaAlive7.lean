/- The statements' fixed fact of lex over this program: it answers true, whatever the memory. -/
import Derived.Test.YthhendkimdddoaaLexToks
namespace Go.Proofs.Ythhendkimdddoaa
open Go.RowKit

/-- Tokens that are told: where they lie. -/
def Got (b : List Int) (xs : List Tok) (w : World) (e : Ending) (w' : World) : Prop := ∃ g c, e = .returned (.tuple #[.slice (some ⟨g, 0, none⟩) xs.length c, .complex .f64 (Fl.fl (Pl.pos b).1) (Fl.fl (Pl.pos b).2), .int .i64 0]) ∧ xs.length ≤ c ∧ c ≤ maxLen ∧ g < w'.heap.size ∧
  (∀ i j u, i < xs.length → j < 3 → (xs[i]?.map (tcells b)).bind (·[j]?) = some u → w'.cell? ⟨g, i * 3 + j, none⟩ = some u) ∧ Below w.heap.size w w'
theorem toks_ok (b : List Int) (hb : K.Bytes b) (hn : b.length ≤ 4000) (xs : List Tok) (h : toks b = .ok xs) (h0 : xs.length ≠ 0) (w : World) (hm : ML w) :
    Calls Try.prog 11 #[.slice (some ⟨w.heap.size, 0, none⟩) b.length b.length] (w.alloc (cellsM b)) (Got b xs w) := by
  obtain ⟨r1, r2⟩ := litM w b
  refine (toks_any _ b.length b _ r1 hb (Nat.le_refl _) hn (hm.up r2)).mono fun e w' ha => ?_
  rw [h] at ha
  obtain ⟨v, rfl, ho, hbl⟩ := ha
  obtain ⟨g, c, rfl, hc, hcm, _, hg, hcell⟩ := ho.addr h0
  exact ⟨g, c, rfl, hc, hcm, hg, hcell, r2.trans (hbl.mono r2.size)⟩
theorem toks_bad (b : List Int) (hb : K.Bytes b) (hn : b.length ≤ 4000) (o : Nat) (d : Int) (h : toks b = .bad o d) (w : World) (hm : ML w) :
    Calls Try.prog 11 #[.slice (some ⟨w.heap.size, 0, none⟩) b.length b.length] (w.alloc (cellsM b)) fun e w' => e = .returned (.tuple #[.slice none 0 0, .complex .f64 (Fl.fl (Pl.pos (b.take o)).1) (Fl.fl (Pl.pos (b.take o)).2), .int .i64 d]) ∧ Below w.heap.size w w' := by
  obtain ⟨r1, r2⟩ := litM w b
  refine (toks_any _ b.length b _ r1 hb (Nat.le_refl _) hn (hm.up r2)).mono fun e w' ha => ?_
  rw [h] at ha
  exact ⟨ha.1, r2.trans (ha.2.mono r2.size)⟩

def ex1 : List Int := [101, 32, 58, 32, 101, 32, 39, 43, 39, 32, 116, 32, 123, 32, 102, 40, 41, 59, 32, 125, 32, 59]
def ex2 : List Int := [37, 116, 111, 107, 101, 110, 32, 65, 10, 37, 37, 10, 97, 58, 32, 65, 32, 37, 112, 114, 101, 99, 32, 39, 92, 110, 39, 59, 10, 37, 37, 10, 63, 32, 123]
def ex3 : List Int := [97, 10, 32, 47, 42, 32]
def ex4 : List Int := [97, 32, 63]
def tk1 : List Tok := [⟨1, [101], 0⟩, ⟨10, [], 2⟩, ⟨1, [101], 4⟩, ⟨2, [39, 43, 39], 6⟩, ⟨1, [116], 10⟩, ⟨12, [], 21⟩]
def tk2 : List Tok := [⟨3, [], 0⟩, ⟨1, [65], 7⟩, ⟨9, [], 9⟩, ⟨1, [97], 12⟩, ⟨10, [], 13⟩, ⟨1, [65], 15⟩, ⟨8, [], 17⟩, ⟨2, [39, 92, 110, 39], 23⟩, ⟨12, [], 27⟩, ⟨9, [], 29⟩]
theorem toks1 : toks ex1 = .ok tk1 := by kernel_rfl
theorem toks2 : toks ex2 = .ok tk2 := by kernel_rfl
theorem toks3 : toks ex3 = .bad 3 4 := by kernel_rfl
theorem toks4 : toks ex4 = .bad 2 3 := by kernel_rfl
theorem ok1 : okN 1 := by unfold okN; omega
theorem ok2 : okN 2 := by unfold okN; omega
theorem eq_same (a : Int) (h : okN a) : (FloatKind.f64.format.order (Fl.fl a) (Fl.fl a) == some .eq) = true := by rw [eq_fl a a h.in h.in]; simp
theorem equal_c (d : Nat) (a b a' b' : Nat) (w : World) (h1 : Op.floatEq .f64 a a' = true) (h2 : Op.floatEq .f64 b b' = true) : (Op.equalIn (d + 1) 26 (.complex .f64 a b) (.complex .f64 a' b')).run Try.prog w = .ok true w := by
  simp [Op.equalIn, run_underlying Try.underlying26, h1, h2]
theorem fl_2 : Fl.fl 2 = 4611686018427387904 := by decide +kernel
theorem fl_3 : Fl.fl 3 = 4613937818241073152 := by decide +kernel
theorem fl_7 : Fl.fl 7 = 4619567317775286272 := by decide +kernel
theorem fl_23 : Fl.fl 23 = 4627167142146473984 := by decide +kernel

set_option maxHeartbeats 4000000 in
set_option maxRecDepth 100000 in
theorem alive7_any (w : World) (hm : ML w) : Calls Try.prog 6 #[] w fun e w' => e = .returned (.bool true) ∧ Below w.heap.size w w' := by
  have T1 := hide (toks_ok ex1 (bytes_lit _ (by decide)) (by decide) tk1 toks1 (by decide) w hm)
  have T2 := hide (fun (w1 : World) (h1 : Below w.heap.size w w1) => toks_ok ex2 (bytes_lit _ (by decide)) (by decide) tk2 toks2 (by decide) w1 (hm.up h1))
  have T3 := hide (fun (w1 : World) (h1 : Below w.heap.size w w1) => toks_bad ex3 (bytes_lit _ (by decide)) (by decide) 3 4 toks3 w1 (hm.up h1))
  have T4 := hide (fun (w1 : World) (h1 : Below w.heap.size w w1) => toks_bad ex4 (bytes_lit _ (by decide)) (by decide) 2 3 toks4 w1 (hm.up h1))
  have V1 := fun w : World => show (convert 24 24 (.slice (some ⟨w.heap.size, 0, none⟩) 22 22)).run Try.prog (w.alloc (.cells #[.int .u8 101, .int .u8 32, .int .u8 58, .int .u8 32, .int .u8 101, .int .u8 32, .int .u8 39, .int .u8 43, .int .u8 39, .int .u8 32, .int .u8 116, .int .u8 32, .int .u8 123, .int .u8 32, .int .u8 102, .int .u8 40, .int .u8 41, .int .u8 59, .int .u8 32, .int .u8 125, .int .u8 32, .int .u8 59] 5)) = .ok (.slice (some ⟨w.heap.size, 0, none⟩) 22 22) (w.alloc (cellsM ex1)) from lit_conv w ex1 22 22
  have V2 := fun w : World => show (convert 24 24 (.slice (some ⟨w.heap.size, 0, none⟩) 35 35)).run Try.prog (w.alloc (.cells #[.int .u8 37, .int .u8 116, .int .u8 111, .int .u8 107, .int .u8 101, .int .u8 110, .int .u8 32, .int .u8 65, .int .u8 10, .int .u8 37, .int .u8 37, .int .u8 10, .int .u8 97, .int .u8 58, .int .u8 32, .int .u8 65, .int .u8 32, .int .u8 37, .int .u8 112, .int .u8 114, .int .u8 101, .int .u8 99, .int .u8 32, .int .u8 39, .int .u8 92, .int .u8 110, .int .u8 39, .int .u8 59, .int .u8 10, .int .u8 37, .int .u8 37, .int .u8 10, .int .u8 63, .int .u8 32, .int .u8 123] 5)) = .ok (.slice (some ⟨w.heap.size, 0, none⟩) 35 35) (w.alloc (cellsM ex2)) from lit_conv w ex2 35 35
  have V3 := fun w : World => show (convert 24 24 (.slice (some ⟨w.heap.size, 0, none⟩) 6 6)).run Try.prog (w.alloc (.cells #[.int .u8 97, .int .u8 10, .int .u8 32, .int .u8 47, .int .u8 42, .int .u8 32] 5)) = .ok (.slice (some ⟨w.heap.size, 0, none⟩) 6 6) (w.alloc (cellsM ex3)) from lit_conv w ex3 6 6
  have V4 := fun w : World => show (convert 24 24 (.slice (some ⟨w.heap.size, 0, none⟩) 3 3)).run Try.prog (w.alloc (.cells #[.int .u8 97, .int .u8 32, .int .u8 63] 5)) = .ok (.slice (some ⟨w.heap.size, 0, none⟩) 3 3) (w.alloc (cellsM ex4)) from lit_conv w ex4 3 3
  have N1 := hide (fun w => name_any [97, 46, 98] (bytes_lit _ (by decide)) w)
  have N2 := hide (fun w => name_any [49, 97] (bytes_lit _ (by decide)) w)
  have N3 := hide (fun w => lit_any [39, 39, 39] (bytes_lit _ (by decide)) (by decide) w)
  have N4 := hide (fun w => lit_any [39, 97, 39] (bytes_lit _ (by decide)) (by decide) w)
  rw [show K.str [97, 46, 98] = ⟨#[97, 46, 98]⟩ from rfl, show T.isName [97, 46, 98] = true from rfl] at N1
  rw [show K.str [49, 97] = ⟨#[49, 97]⟩ from rfl, show T.isName [49, 97] = false from rfl] at N2
  rw [show K.str [39, 39, 39] = ⟨#[39, 39, 39]⟩ from rfl, show T.isLit [39, 39, 39] = false from rfl] at N3
  rw [show K.str [39, 97, 39] = ⟨#[39, 97, 39]⟩ from rfl, show T.isLit [39, 97, 39] = true from rfl] at N4
  have p1 : (Pl.pos ex1).1 = 1 ∧ (Pl.pos ex1).2 = 23 := by decide
  have p3 : (Pl.pos (ex3.take 3)).1 = 2 ∧ (Pl.pos (ex3.take 3)).2 = 2 := by decide
  have p4 : (Pl.pos (ex4.take 2)).1 = 1 ∧ (Pl.pos (ex4.take 2)).2 = 3 := by decide
  rw [p3.1, p3.2, fl_2] at T3
  rw [p4.1, p4.2, Fl.fl_one, fl_3] at T4
  have q1 := eq_same 1 ok1
  have q2 := eq_same 2 ok2
  have q3 := eq_same 3 (by unfold okN; omega)
  have q7 := eq_same 7 (by unfold okN; omega)
  have q23 := eq_same 23 (by unfold okN; omega)
  rw [Fl.fl_one] at q1
  rw [fl_2] at q2
  rw [fl_3] at q3
  rw [fl_7] at q7
  rw [fl_23] at q23
  have HP1 : Hid (Fl.fl (Pl.pos ex1).1 = 4607182418800017408 ∧ Fl.fl (Pl.pos ex1).2 = 4627167142146473984) := hide (by rw [p1.1, p1.2, Fl.fl_one, fl_23]; exact ⟨rfl, rfl⟩)
  have E7 := fun w => equal_c 9998 4607182418800017408 4619567317775286272 4607182418800017408 4619567317775286272 w (by decide +kernel) (by decide +kernel)
  have E8 := fun w => equal_c 9998 4611686018427387904 4607182418800017408 4611686018427387904 4607182418800017408 w (by decide +kernel) (by decide +kernel)
  clear p1 p3 p4 hm
  go_enter Try.func6, Try.ntmps6
  go_wp2_with (simp only [V1])
  refine T1.out.mono ?_; rintro _ w1 ⟨g1, c1, rfl, hc1, hcm1, hg1, hcell1, hb1⟩
  rw [HP1.out.1, HP1.out.2]
  have HB1 := hide hb1
  have HC1 := hide hcell1
  have HG1 := hide hg1
  clear hb1 hcell1 hg1
  go_wp2_with fail
  refine (T2.out _ HB1.out).mono ?_; rintro _ w2 ⟨g2, c2, rfl, hc2, hcm2, hg2, hcell2, hb2⟩
  have HB2 := hide (HB1.out.trans (hb2.mono HB1.out.size))
  have HB12 := hide hb2
  have HC2 := hide hcell2
  have HG2 := hide hg2
  clear hb2 hcell2 hg2
  generalize Fl.fl (Pl.pos ex2).1 = y1 at *
  generalize Fl.fl (Pl.pos ex2).2 = y2 at *
  go_wp2_with fail
  refine (T3.out _ HB2.out).mono ?_; rintro _ w3 ⟨rfl, hb3⟩
  have HB3 := hide (HB2.out.trans (hb3.mono HB2.out.size))
  have HB23 := hide hb3
  clear hb3
  go_wp2_with fail
  refine (T4.out _ HB3.out).mono ?_; rintro _ w4 ⟨rfl, hb4⟩
  have HB4 := hide (HB3.out.trans (hb4.mono HB3.out.size))
  have HB24 := hide (HB23.out.trans (hb4.mono HB23.out.size))
  clear hb4
  have HB14 := hide (HB12.out.trans (HB24.out.mono HB12.out.size))
  have K1 := fun j u (h : w1.cell? ⟨g1, j, none⟩ = some u) => (HB14.out.cell (p := ⟨g1, j, none⟩) HG1.out).trans h
  have K2 := fun j u (h : w2.cell? ⟨g2, j, none⟩ = some u) => (HB24.out.cell (p := ⟨g2, j, none⟩) HG2.out).trans h
  have c9 : w4.cell? ⟨g1, 9, none⟩ = some (.int .i64 2) := K1 9 _ (HC1.out 3 0 _ (by decide) (by decide) rfl)
  have c10 : w4.cell? ⟨g1, 10, none⟩ = some (.string ⟨#[39, 43, 39]⟩) := K1 10 _ (HC1.out 3 1 _ (by decide) (by decide) rfl)
  have c11 : w4.cell? ⟨g1, 11, none⟩ = some (.complex .f64 4607182418800017408 4619567317775286272) := K1 11 _ (HC1.out 3 2 _ (by decide) (by decide) (by rw [← Fl.fl_one, ← fl_7]; rfl))
  have c15 : w4.cell? ⟨g1, 15, none⟩ = some (.int .i64 12) := K1 15 _ (HC1.out 5 0 _ (by decide) (by decide) rfl)
  have d0 : w4.cell? ⟨g2, 0, none⟩ = some (.int .i64 3) := K2 0 _ (HC2.out 0 0 _ (by decide) (by decide) rfl)
  have d6 : w4.cell? ⟨g2, 6, none⟩ = some (.int .i64 9) := K2 6 _ (HC2.out 2 0 _ (by decide) (by decide) rfl)
  have d7 : w4.cell? ⟨g2, 7, none⟩ = some (.string ⟨#[]⟩) := K2 7 _ (HC2.out 2 1 _ (by decide) (by decide) rfl)
  have d8 : w4.cell? ⟨g2, 8, none⟩ = some (.complex .f64 4611686018427387904 4607182418800017408) := K2 8 _ (HC2.out 2 2 _ (by decide) (by decide) (by rw [← Fl.fl_one, ← fl_2]; rfl))
  have d22 : w4.cell? ⟨g2, 22, none⟩ = some (.string ⟨#[39, 92, 110, 39]⟩) := K2 22 _ (HC2.out 7 1 _ (by decide) (by decide) rfl)
  clear K1 K2 hc1 hcm1 hc2 hcm2
  rw [show tk1.length = 6 from rfl, show tk2.length = 10 from rfl]
  go_wp2_with fail
  refine (N1.out _).mono ?_; rintro _ w5 ⟨rfl, hb5⟩
  have HB5 := hide (HB4.out.trans (hb5.mono HB4.out.size))
  clear hb5
  go_wp2_with fail
  refine (N2.out _).mono ?_; rintro _ w6 ⟨rfl, hb6⟩
  have HB6 := hide (HB5.out.trans (hb6.mono HB5.out.size))
  clear hb6
  go_wp2_with fail
  refine (N3.out _).mono ?_; rintro _ w' ⟨rfl, rfl⟩
  go_wp2_with fail
  refine (N4.out _).mono ?_; rintro _ w' ⟨rfl, rfl⟩
  go_wp2
  go_ret
  exact ⟨rfl, HB6.out⟩
end Go.Proofs.Ythhendkimdddoaa
