/- Part of the proofs over this program: WalkReduces. -/
import Derived.Test.YtfiijndmlmddbaaGreatKL
namespace Go.Proofs.YtfiijndmlmddbaaGreat
set_option maxRecDepth 100000
open Go.RowKit

theorem not_great11 {G : Gm.Gr} (h : Gm.great G = false) : G.ts.length ≤ 40 ∧ G.ns.length ≤ 40 ∧ G.rs.length ≤ 60 ∧ ∀ r ∈ G.rs, r.r.length ≤ 20 := by
  unfold Gm.great at h
  simp only [Bool.or_eq_false_iff, decide_eq_false_iff_not, List.any_eq_false, decide_eq_true_eq] at h
  obtain ⟨⟨⟨h1, h2⟩, h3⟩, h4⟩ := h
  exact ⟨by omega, by omega, by omega, fun r hr => by have := h4 r hr; omega⟩
theorem Gm.rdL_len (G : Gm.Gr) : (Gm.rdL G).length ≤ G.rs.length := by
  unfold Gm.rdL
  split
  · exact Gm.kl_len G _
  · simp
set_option maxHeartbeats 16000000 in
theorem trimReduces_walk (v : Value) (G : Gm.Gr) (w : World) (hg : RdGr w w.heap.size v G) (hf : Gm.Fit G) :
    Calls Tryz.prog 4 #[v] w fun e w' => e = .returned (.bool true) ∧ Below w.heap.size w w' := by
  have HGG := hide (fun (x : World) (h : Below w.heap.size w x) => hg.below h (Nat.le_refl _))
  have HAL := hide (fun (x : World) => alive11_any x)
  have TG := hide (fun (x : World) (h : Below w.heap.size w x) => great9_any v G w.heap.size x (HGG.out x h) h.size)
  have TC := hide (fun (hh : Gm.great G = false) (x : World) (h : Below w.heap.size w x) => rcopy9_any v G w.heap.size x (HGG.out x h) h.size (by have := not_great11 hh; omega) (by have := not_great11 hh; omega) (by have := not_great11 hh; omega) (fun r hr => by have := (not_great11 hh).2.2.2 r hr; omega))
  have TR1 := hide (fun (z x : World) (u : Value) (hu : RdGr z z.heap.size u G) (h : Below z.heap.size z x) => tReduce_any u G z.heap.size x (hu.below h (Nat.le_refl _)) hf h.size)
  have TR2 := hide (fun (x : World) (h : Below w.heap.size w x) => rReduce_any v G w.heap.size x (HGG.out x h) hf h.size)
  have TS1 := hide (fun (z y x : World) (u u' : Value) (hu : RdGr z z.heap.size u (Gm.rdG G)) (hu' : RdGr y y.heap.size u' (Gm.rdG G)) (h : Below z.heap.size z x) (h' : Below y.heap.size y x) => rsame_any u u' (Gm.rdG G) (Gm.rdG G) z.heap.size y.heap.size x (hu.below h (Nat.le_refl _)) (hu'.below h' (Nat.le_refl _)) (Gm.rdG_fit hf) (Gm.rdG_fit hf) h.size h'.size)
  have TS2 := hide (fun (z x : World) (u : Value) (hu : RdGr z z.heap.size u G) (k : Below z.heap.size z x) (h : Below w.heap.size w x) => rsame_any u v G G z.heap.size w.heap.size x (hu.below k (Nat.le_refl _)) (HGG.out x h) hf hf k.size h.size)
  rw [Gm.same_self] at TS1 TS2
  have HLL : Hid (Gm.great G = false → (Gm.rdL G).length ≤ 9223372036854775807) := hide (fun hh => by have := Gm.rdL_len G; have := not_great11 hh; omega)
  unfold RedAns at TR1 TR2
  generalize Gm.rdL G = L at *
  generalize Gm.rdE G = er at *
  generalize Gm.rdG G = RG at *
  obtain ⟨A0, c0, A1, c1, A2, c2, rfl, _⟩ := hg
  have HQ0 := hide (One.start w #[.slice A0 G.ts.length c0, .slice A1 G.ns.length c1, .slice A2 G.rs.length c2, .int .i64 G.st])
  have HXC := hide (fun (x : World) (h : One w #[.slice A0 G.ts.length c0, .slice A1 G.ns.length c1, .slice A2 G.rs.length c2, .int .i64 G.st] x) => And.intro (h.c 0 _ rfl) (And.intro (h.c 1 _ rfl) (And.intro (h.c 2 _ rfl) (h.c 3 _ rfl))))
  clear hf
  go_enter Tryz.func4, Tryz.ntmps4
  go_wp2_with fail
  refine (HAL.out _).mono ?_; rintro _ w1 ⟨rfl, hb1⟩
  have HQ1 := hide (HQ0.out.on hb1)
  obtain ⟨x0, x1, x2, x3⟩ := HXC.out w1 HQ1.out
  clear hb1
  cases hgr : Gm.great G with
  | true =>
    rw [hgr] at TG
    go_wp2_with fail
    refine (TG.out _ HQ1.out.below).mono ?_; rintro _ w2 ⟨rfl, hb2⟩
    have HQ2 := hide (HQ1.out.on hb2)
    clear hb2
    go_wp2
    go_ret
    exact ⟨rfl, HQ2.out.below⟩
  | false =>
    have TCC := hide (TC.out hgr)
    have HLN := hide (HLL.out hgr)
    rw [hgr] at TG
    go_wp2_with fail
    refine (TG.out _ HQ1.out.below).mono ?_; rintro _ w2 ⟨rfl, hb2⟩
    have HQ2 := hide (HQ1.out.on hb2)
    clear x0 x1 x2 x3 hb2 hgr TG TC
    obtain ⟨x0, x1, x2, x3⟩ := HXC.out w2 HQ2.out
    go_wp2_with fail
    refine (TCC.out _ HQ2.out.below).mono ?_; rintro _ w3 ⟨g, rfl, hg3, hb3⟩
    have HQ3 := hide (HQ2.out.on hb3)
    have HG3 := hide hg3
    obtain ⟨B0, d0, B1, d1, B2, d2, rfl, _⟩ := hg3
    clear x0 x1 x2 x3 hb3 TCC
    have HR4 := hide (One.start w3 #[.slice B0 G.ts.length d0, .slice B1 G.ns.length d1, .slice B2 G.rs.length d2, .int .i64 G.st])
    have HYC := hide (fun (x : World) (h : One w3 #[.slice B0 G.ts.length d0, .slice B1 G.ns.length d1, .slice B2 G.rs.length d2, .int .i64 G.st] x) => And.intro (h.c 0 _ rfl) (And.intro (h.c 1 _ rfl) (And.intro (h.c 2 _ rfl) (h.c 3 _ rfl))))
    have HQ4 := hide (HQ3.out.on HR4.out.below)
    go_wp2_with fail
    refine (TR1.out w3 _ _ HG3.out HR4.out.below).mono ?_; rintro _ w5 ⟨g5, A5, e5, rfl, hg5, hr5, hb5⟩
    have HQ5 := hide (HQ4.out.on hb5)
    have HR5 := hide (HR4.out.on hb5)
    have HG5 := hide hg5
    have HL5 := hide hr5
    obtain ⟨C0, f0, C1, f1, C2, f2, rfl, _⟩ := hg5
    have HS5 := hide (One.start w5 #[.slice C0 RG.ts.length f0, .slice C1 RG.ns.length f1, .slice C2 RG.rs.length f2, .int .i64 RG.st])
    have HZC := hide (fun (x : World) (h : One w5 #[.slice C0 RG.ts.length f0, .slice C1 RG.ns.length f1, .slice C2 RG.rs.length f2, .int .i64 RG.st] x) => And.intro (h.c 0 _ rfl) (And.intro (h.c 1 _ rfl) (And.intro (h.c 2 _ rfl) (h.c 3 _ rfl))))
    have HQ6 := hide (HQ5.out.on HS5.out.below)
    have HR6 := hide (HR5.out.on HS5.out.below)
    obtain ⟨x0, x1, x2, x3⟩ := HXC.out _ HQ6.out
    have lw : w.heap.size < w5.heap.size := HQ5.out.size
    clear hb5 hr5 TR1
    go_wp2_with fail
    refine (TR2.out _ HQ6.out.below).mono ?_; rintro _ w7 ⟨g7, A7, e7, rfl, hg7, hr7, hb7⟩
    have HQ7 := hide (HQ6.out.on hb7)
    have HR7 := hide (HR6.out.on hb7)
    have HS7 := hide (HS5.out.on hb7)
    have HG7 := hide hg7
    have HL7 := hide hr7
    obtain ⟨D0, h0, D1, h1, D2, h2, rfl, _⟩ := hg7
    have HT7 := hide (One.start w7 #[.slice D0 RG.ts.length h0, .slice D1 RG.ns.length h1, .slice D2 RG.rs.length h2, .int .i64 RG.st])
    have HTC := hide (fun (x : World) (h : One w7 #[.slice D0 RG.ts.length h0, .slice D1 RG.ns.length h1, .slice D2 RG.rs.length h2, .int .i64 RG.st] x) => And.intro (h.c 0 _ rfl) (And.intro (h.c 1 _ rfl) (And.intro (h.c 2 _ rfl) (h.c 3 _ rfl))))
    have HQ8 := hide (HQ7.out.on HT7.out.below)
    have HR8 := hide (HR7.out.on HT7.out.below)
    have HS8 := hide (HS7.out.on HT7.out.below)
    clear x0 x1 x2 x3 hb7 hr7 TR2
    obtain ⟨z0, z1, z2, z3⟩ := HZC.out _ HS8.out
    have lw5 : w5.heap.size < w7.heap.size := HS7.out.size
    go_wp2_with fail
    refine (TS1.out w5 w7 _ _ _ HG5.out HG7.out HS8.out.below HT7.out.below).mono ?_; rintro _ w9 ⟨rfl, hb9⟩
    have HQ9 := hide (HQ8.out.on hb9)
    have HR9 := hide (HR8.out.on hb9)
    have HS9 := hide (HS8.out.on hb9)
    have HT9 := hide (HT7.out.on hb9)
    have HI9 := hide (ints_same A5 A7 e5 e7 L w9 ((HL5.out.below HS9.out.below (Nat.le_refl _)).more HS9.out.below.size) ((HL7.out.below HT9.out.below (Nat.le_refl _)).more HT9.out.below.size) HLN.out)
    clear z0 z1 z2 z3 hb9 TS1
    have hee : (er == er) = true := by simp
    go_wp2_with fail
    refine HI9.out.mono ?_; rintro _ w10 ⟨rfl, n10, hw10⟩
    have HQ10 : Hid (One w #[.slice A0 G.ts.length c0, .slice A1 G.ns.length c1, .slice A2 G.rs.length c2, .int .i64 G.st] w10) := hide (by rw [hw10]; exact HQ9.out.drewN _)
    have HR10 : Hid (One w3 #[.slice B0 G.ts.length d0, .slice B1 G.ns.length d1, .slice B2 G.rs.length d2, .int .i64 G.st] w10) := hide (by rw [hw10]; exact HR9.out.drewN _)
    clear hw10
    obtain ⟨x0, x1, x2, x3⟩ := HXC.out _ HQ10.out
    obtain ⟨y0, y1, y2, y3⟩ := HYC.out _ HR10.out
    have lw0 : w.heap.size < w10.heap.size := HQ10.out.size
    have lw3 : w3.heap.size < w10.heap.size := HR10.out.size
    go_wp2_with fail
    refine (TS2.out w3 w10 _ HG3.out HR10.out.below HQ10.out.below).mono ?_; rintro _ w11 ⟨rfl, hb11⟩
    have HQ11 := hide (HQ10.out.on hb11)
    clear x0 x1 x2 x3 y0 y1 y2 y3 hb11
    go_wp2
    go_ret
    exact ⟨rfl, HQ11.out.below⟩
end Go.Proofs.YtfiijndmlmddbaaGreat
